/- One event is ahead of another one just where its clock is less (Fidge; Mattern), for drawn events: the law FnVector, at every two lists of bytes. No condition. -/
import Derived.Test.YtjophhiccbkpjaaDrD
import Derived.Test.YtjophhiccbkpjaaVcI
import Derived.Test.YtjophhiccbkpjaaVcQ
import Derived.Test.YtjophhiccbkpjaaVcS
import Derived.Test.YtjophhiccbkpjaaMrgC
import Derived.Test.YtjophhiccbkpjaaOpenBE
import Derived.Test.YtjophhiccbkpjaaWords
import Derived.ProofKit
import Derived.OpenShut
import Derived.ShutString
import Derived.ChangeOld
import Derived.Below
import Derived.Lib.SmallJoins
namespace Go.Proofs.Ytjophhiccbkpjaa.fVector
open Go.ChangeShapes Go.WideShapes Go.ChangeAt Go.RowKit
open Go.ChangeMaps (open_string shut_string)
set_option linter.unusedVariables false

theorem lmN_le (K P M : Nat → Int) (k : Nat) : lmN K P M k ≤ k := by unfold lmN; split <;> omega
theorem cmp_ne {K P M : Nat → Int} {i j : Nat} (hij : i < j) (hj : ∃ p : Nat, P j = (p : Int) ∧ p < 6) : lessTo (vc K P M (i + 1)) (vc K P M (j + 1)) 6 = true := by
  obtain ⟨q, hq, hq6⟩ := hj
  cases hl : lessTo (vc K P M (i + 1)) (vc K P M (j + 1)) 6
  · have hle := (lessTo_no _ _ 6).1 hl q hq6
    have h1 := vc_own K P M q j j (Nat.le_refl _) hq
    have h2 := (vc_le K P M q (i + 1) (i + 1) (Nat.le_refl _)).2
    have h4 := cnt_mono P q (show i + 1 ≤ j by omega)
    have h5 : cnt P q (j + 1) = cnt P q j + 1 := by simp [cnt, hq]
    omega
  · rfl
theorem cmpB_ne {x y : Bool} (h : x = true ∨ y = true) : cmpB x y ≠ 0 := by
  unfold cmpB
  rcases h with rfl | rfl
  · cases y <;> simp
  · cases x <;> simp
theorem vf_vc {K P M : Nat → Int} {i : Nat} (hi : i ≤ 1000) : vfOk (vc K P M (i + 1)) 6 1000000 = true := by
  simp only [vfOk, decide_true, Bool.true_and]
  refine (allIn_iff _ _ 6).2 fun p _ => inR_iff.2 ?_
  have := vc_bd K P M (i + 1) p
  omega
/-- What two events' clocks tell. -/
theorem vec_facts {K P M : Nat → Int} {k i j : Nat} (hk : k ≤ 62) (hi : i < lmN K P M k) (hj : j < lmN K P M k) (hne : i ≠ j) :
    ahOk K P M k i j = true ∧ ccOk (vc K P M (i + 1)) 6 (vc K P M (j + 1)) 6 = true ∧ (ccN (vc K P M (i + 1)) 6 (vc K P M (j + 1)) 6 == -1) = ahB K P M k i j ∧ ccN (vc K P M (i + 1)) 6 (vc K P M (j + 1)) 6 ≠ 0 := by
  unfold lmN at hi hj
  cases hg : goodE K P M k
  · rw [hg] at hi; simp at hi
  · rw [hg] at hi hj
    simp only [if_true] at hi hj
    have h1 : inR (i : Int) 0 ((k : Int) - 1) = true := inR_iff.2 (by omega)
    have h2 : inR (j : Int) 0 ((k : Int) - 1) = true := inR_iff.2 (by omega)
    have h3 : ahOk K P M k i j = true := by simp [ahOk, hg, h1, h2]
    have hE : ∀ i, i < k → evOk K P M i = true := by
      have := hg
      simp only [goodE, Bool.and_eq_true] at this
      exact (allEv_iff K P M k).1 this.2
    have hpi := (ev_kind (hE i hi)).1
    have hpj := (ev_kind (hE j hj)).1
    have h4 : ccOk (vc K P M (i + 1)) 6 (vc K P M (j + 1)) 6 = true := by
      rw [ccOk, vf_vc (by omega), vf_vc (by omega)]; rfl
    refine ⟨h3, h4, ?_, ?_⟩
    · rw [ccN, if_pos h4, ahd_cmp hpi hpj]; simp [ahB, h3]
    · rw [ccN, if_pos h4, cmpV]
      refine cmpB_ne ?_
      rcases Nat.lt_or_gt_of_ne hne with h | h
      · exact Or.inl (cmp_ne h hpj)
      · exact Or.inr (cmp_ne h hpi)
theorem cmpV_le {x y : Nat → Int} (h : ∀ i, i < 6 → x i ≤ y i) : cmpV x y ≤ 0 := by
  have : lessTo y x 6 = false := (lessTo_no _ _ 6).2 h
  rw [cmpV, this, cmpB]
  cases lessTo x y 6 <;> simp
theorem vf_six {X : Nat → Int} {n : Nat} {g : Int} (h : vfOk X n g = true) : n = 6 ∧ ∀ i, i < 6 → 0 ≤ X i ∧ X i ≤ g := by
  simp only [vfOk, Bool.and_eq_true, decide_eq_true_eq] at h
  exact ⟨h.1, fun i hi => inR_iff.1 ((allIn_iff _ _ 6).1 h.2 i hi)⟩
/-- What is merged is no less than either. -/
theorem merge_facts {X Y : Nat → Int} {n m : Nat} (h : ccOk X n Y m = true) : (ccOk X n (mgV X Y) 6 = true ∧ ccN X n (mgV X Y) 6 ≤ 0) ∧ ccOk Y m (mgV X Y) 6 = true ∧ ccN Y m (mgV X Y) 6 ≤ 0 := by
  simp only [ccOk, Bool.and_eq_true] at h
  obtain ⟨h1, h2⟩ := h
  obtain ⟨_, b1⟩ := vf_six h1
  obtain ⟨_, b2⟩ := vf_six h2
  have h3 : vfOk (mgV X Y) 6 1000000 = true := by
    simp only [vfOk, decide_true, Bool.true_and]
    refine (allIn_iff _ _ 6).2 fun p hp => inR_iff.2 ?_
    have := b1 p hp
    have := b2 p hp
    unfold mgV; omega
  have e1 : ccOk X n (mgV X Y) 6 = true := by rw [ccOk, h1, h3]; rfl
  have e2 : ccOk Y m (mgV X Y) 6 = true := by rw [ccOk, h2, h3]; rfl
  refine ⟨⟨e1, ?_⟩, e2, ?_⟩
  · rw [ccN, if_pos e1]; exact cmpV_le fun i _ => by unfold mgV; omega
  · rw [ccN, if_pos e2]; exact cmpV_le fun i _ => by unfold mgV; omega
theorem clk_at {w : World} {B C : Nat} {a : Option Addr} {n i : Nat} {F : Nat → Nat → Int} (h : ClkR w B C a n F) (hi : i < n) : ∃ (g h cp : Nat), a = some ⟨g, 0, none⟩ ∧ g < w.heap.size ∧ w.cell? ⟨g, i, none⟩ = some (.slice (some ⟨h, 0, none⟩) 6 cp) ∧ Sl w (some ⟨h, 0, none⟩) 6 1 (intF (F i)) := by
  rcases h.1 with h | ⟨g, hh, cp, e, _, _, h3, h4, _⟩
  · omega
  · obtain ⟨q1, _, _, _, q5⟩ := h4 i hi
    exact ⟨g, hh i, cp i, e, h3, q1, by have := q5.sl (o := 0) (m := 6) (by omega); simpa using this⟩

set_option maxRecDepth 100000 in
set_option maxHeartbeats 20000000 in
theorem walk (a : Option Addr) (n cap : Nat) (X : Nat → Int) (w : World) (hm : n ≤ maxLen) (hs : Sl w a n 1 (byF X)) (hX : ∀ i, i < n → 0 ≤ X i ∧ X i ≤ 255)
    (a' : Option Addr) (n' cap' : Nat) (Y : Nat → Int) (hm' : n' ≤ maxLen) (hs' : Sl w a' n' 1 (byF Y)) (hY : ∀ i, i < n' → 0 ≤ Y i ∧ Y i ≤ 255) :
    Calls Try.prog 4 #[.slice a n cap, .slice a' n' cap'] w fun r w' => r = .returned (.bool true) ∧ Below w.heap.size w w' := by
  unfold maxLen at hm hm'
  have HS : Hid ((Sl w a n 1 (byF X) ∧ ∀ i, i < n → 0 ≤ X i ∧ X i ≤ 255) ∧ Sl w a' n' 1 (byF Y) ∧ ∀ i, i < n' → 0 ≤ Y i ∧ Y i ≤ 255) := ⟨⟨hs, hX⟩, hs', hY⟩
  clear hs hs' hX hY
  by_cases hlt : (1048576 : Int) < wrap64 ((n : Int) + (n' : Int))
  case pos =>
    go_enter Try.func4, Try.ntmps4
    go_wp2
    go_ret
    exact ⟨rfl, Below.refl _ _⟩
  case neg =>
  go_enter Try.func4, Try.ntmps4
  go_wp2_with fail
  refine (drawVector_any _ _ _ X _ hm HS.out.1.1 HS.out.1.2).mono ?_
  rintro r w1 ⟨a4, k, cap4, K, P, M, hk, hkc, rfl, hs4, hM, hb⟩
  have HH : Hid (Sl w1 a4 k 3 (evF K P M) ∧ (∀ i, i < k → -9223372036854775808 ≤ M i ∧ M i ≤ 9223372036854775807) ∧ Below w.heap.size w w1) := ⟨hs4, hM, hb⟩
  clear hs4 hM hb
  go_wp2_with fail
  refine (vectorOf_any _ _ _ K P M _ (by omega) HH.out.2.1 HH.out.1).mono ?_
  rintro r w2 ⟨⟨a2, cap2, rfl, hi⟩, hb⟩
  have H2 : Hid (Below w1.heap.size w1 w2 ∧ ClkR w2 w1.heap.size w2.heap.size a2 (lmN K P M k) (fun i p => vc K P M (i + 1) p)) := ⟨hb, hi⟩
  clear hb hi
  go_wp2_with fail
  refine (specVectorOf_any _ _ _ K P M _ (by omega) hkc (HH.out.1.kept H2.out.1)).mono ?_
  rintro r w3 ⟨⟨a3, cap3, rfl, hi⟩, hb⟩
  have H3 : Hid (Below w1.heap.size w1 w3 ∧ ClkR w3 w1.heap.size w2.heap.size a2 (lmN K P M k) (fun i p => vc K P M (i + 1) p) ∧ ClkR w3 w2.heap.size w3.heap.size a3 (lmN K P M k) (fun i p => vc K P M (i + 1) p)) := ⟨below_next H2.out.1 hb, H2.out.2.next hb, hi⟩
  clear hb hi H2
  have HAF : Hid (∀ i j : Nat, i < lmN K P M k → j < lmN K P M k → i ≠ j → ahOk K P M k i j = true ∧ ccOk (vc K P M (i + 1)) 6 (vc K P M (j + 1)) 6 = true ∧ (ccN (vc K P M (i + 1)) 6 (vc K P M (j + 1)) 6 == -1) = ahB K P M k i j ∧ ccN (vc K P M (i + 1)) 6 (vc K P M (j + 1)) 6 ≠ 0) := fun i j hi hj hne => vec_facts hk hi hj hne
  have hN0 := lmN_le K P M k
  obtain ⟨N, hN⟩ : ∃ N, N = lmN K P M k := ⟨_, rfl⟩
  obtain ⟨gq, hgq⟩ : ∃ gq, gq = goodE K P M k := ⟨_, rfl⟩
  obtain ⟨B2, hB2⟩ : ∃ B2, B2 = w2.heap.size := ⟨_, rfl⟩
  rw [← hN, ← hB2] at H3
  rw [← hN] at HAF hN0
  rw [← hN, ← hgq]
  clear hN hgq hB2
  have HB3 : Hid (Below w.heap.size w w3) := HH.out.2.2.trans (H3.out.1.mono HH.out.2.2.size)
  go_wp2
  go_loopw [57] (fun x wr => ∃ i : Nat, i ≤ N ∧ x = .int .i64 i ∧ Below w3.heap.size w3 wr) (fun x _ => N - (intOf x).toNat)
  case atStart => exact ⟨0, Nat.zero_le _, rfl, Below.refl _ _⟩
  case round =>
    obtain ⟨i, hi, rfl, hBr⟩ := hrel
    by_cases hin : i < N
    · have hin' : (i : Int) < (N : Int) := by omega
      obtain ⟨g2, h2, c2, rfl, gl2, q2, s2⟩ := clk_at (H3.out.2.1.next hBr) hin
      obtain ⟨g3, h3, c3, rfl, gl3, q3, s3⟩ := clk_at (H3.out.2.2.next hBr) hin
      have HB : Hid (Below w3.heap.size w3 wr ∧ Sl wr (some ⟨h2, 0, none⟩) 6 1 (intF fun p => vc K P M (i + 1) p) ∧ Sl wr (some ⟨h3, 0, none⟩) 6 1 (intF fun p => vc K P M (i + 1) p)) := ⟨hBr, s2, s3⟩
      clear hBr s2 s3
      go_upto_region 11 with fail
      refine wp_region_noPanic ?_
      refine wp_region_held_drew (S := fun W => W.cell? ⟨g2, i, none⟩ = some (.slice (some ⟨h2, 0, none⟩) 6 c2) ∧ W.cell? ⟨g3, i, none⟩ = some (.slice (some ⟨h3, 0, none⟩) 6 c3)) (by kernel_rfl) ⟨q2, q3⟩ (fun hHeld => ?_)
      refine take_v (v := ?_) 0 ⟨some 60, Op.move (Operand.tmp 6), _, _, _, none⟩ rfl (fun _ _ _ h => h) ?_ hHeld ?_
      rotate_left
      · (intro W _; go_simp <;> (try with_reducible rfl))
      refine take_v (v := ?_) 1 ⟨some 61, Op.move (Operand.tmp 10), _, _, _, none⟩ rfl (fun _ _ _ h => h) ?_ hHeld ?_
      rotate_left
      · (intro W _; go_simp <;> (try with_reducible rfl))
      refine take_v (v := ?_) 2 ⟨some 62, Op.indexAddr 32 (Operand.tmp 60) (Operand.tmp 61), _, _, _, none⟩ rfl (fun _ _ _ h => h) ?_ hHeld ?_
      rotate_left
      · (intro W _; go_simp <;> (try with_reducible rfl))
      refine take_v (v := ?_) 3 ⟨some 63, Op.fieldAddr 36 (Operand.tmp 62) 0, _, _, _, none⟩ rfl (fun _ _ _ h => h) ?_ hHeld ?_
      rotate_left
      · (intro W _; go_simp <;> (try with_reducible rfl))
      refine take_v (v := ?_) 4 ⟨some 64, Op.load 25 (Operand.tmp 63), _, _, _, none⟩ rfl (fun _ _ _ h => h) ?_ hHeld ?_
      rotate_left
      · (intro W hSW; obtain ⟨sw0, sw1⟩ := hSW; go_simp <;> (try with_reducible rfl))
      refine take_v (v := ?_) 5 ⟨some 65, Op.move (Operand.tmp 8), _, _, _, none⟩ rfl (fun _ _ _ h => h) ?_ hHeld ?_
      rotate_left
      · (intro W _; go_simp <;> (try with_reducible rfl))
      refine take_v (v := ?_) 6 ⟨some 66, Op.move (Operand.tmp 10), _, _, _, none⟩ rfl (fun _ _ _ h => h) ?_ hHeld ?_
      rotate_left
      · (intro W _; go_simp <;> (try with_reducible rfl))
      refine take_v (v := ?_) 7 ⟨some 67, Op.indexAddr 32 (Operand.tmp 65) (Operand.tmp 66), _, _, _, none⟩ rfl (fun _ _ _ h => h) ?_ hHeld ?_
      rotate_left
      · (intro W _; go_simp <;> (try with_reducible rfl))
      refine take_v (v := ?_) 8 ⟨some 68, Op.fieldAddr 36 (Operand.tmp 67) 0, _, _, _, none⟩ rfl (fun _ _ _ h => h) ?_ hHeld ?_
      rotate_left
      · (intro W _; go_simp <;> (try with_reducible rfl))
      refine take_v (v := ?_) 9 ⟨some 69, Op.load 25 (Operand.tmp 68), _, _, _, none⟩ rfl (fun _ _ _ h => h) ?_ hHeld ?_
      rotate_left
      · (intro W hSW; obtain ⟨sw0, sw1⟩ := hSW; go_simp <;> (try with_reducible rfl))
      refine ready_call 10 ⟨some 70, Op.call { callee := Callee.value (Operand.func 17), args := #[Operand.tmp 64, Operand.tmp 69], argTypes := #[25, 25] }, _, _, _, none⟩ (by kernel_rfl) rfl (by kernel_rfl) (fun KC hK => ?_)
      go_wp2_with fail
      refine (sameInts_same _ _ _ _ _ (fun p => vc K P M (i + 1) p) _ (by omega) (HB.out.2.1.kept (Below.refl _ _).drew) (HB.out.2.2.kept (Below.refl _ _).drew)).mono ?_
      rintro _ w4 ⟨rfl, hb⟩
      have HB4 : Hid (Below w3.heap.size w3 w4) := below_next (below_next HB.out.1 (Below.refl _ _).drew) hb
      have q2' := (hb.cell (p := ⟨g2, i, none⟩) gl2).trans q2
      have q3' := (hb.cell (p := ⟨g3, i, none⟩) gl3).trans q3
      clear hb HB
      refine hK.out _ _ ⟨q2', q3'⟩ (fun hHeld => ?_)
      clear hK KC
      refine take_v (v := ?_) 11 ⟨some 71, Op.unOp UnOp.not 4 (Operand.tmp 70), _, _, _, none⟩ rfl (fun _ _ _ h => h) ?_ hHeld ?_
      rotate_left
      · (intro W _; go_simp <;> (try with_reducible rfl))
      refine wpAnyH_done (by kernel_rfl) ?_ _
      refine NoPanic.normal ?_
      go_wp2
      go_roundw
      case rel => exact ⟨i + 1, by omega, by go_num, HB4.out⟩
      case measure => simp [intOf]; omega
    · have hin' : ¬ (i : Int) < (N : Int) := by omega
      have H4 : Hid (Below w1.heap.size w1 wr ∧ ClkR wr w1.heap.size B2 a2 N (fun i p => vc K P M (i + 1) p) ∧ Below w.heap.size w wr) := ⟨below_next H3.out.1 hBr, H3.out.2.1.next hBr, below_next HB3.out hBr⟩
      obtain ⟨w4, hw4⟩ : ∃ x, x = wr := ⟨wr, rfl⟩
      subst hw4
      clear hBr H3 HB3
      go_wp2
      go_loopw [75] (fun x wr => ∃ i : Nat, i ≤ N ∧ x = .int .i64 i ∧ Below w4.heap.size w4 wr) (fun x _ => N - (intOf x).toNat)
      case atStart => exact ⟨0, Nat.zero_le _, rfl, Below.refl _ _⟩
      case round =>
        obtain ⟨i, hi, rfl, hBr⟩ := hrel
        obtain ⟨wo, hwo⟩ : ∃ x, x = wr := ⟨wr, rfl⟩
        subst hwo
        have HBo : Hid (Below w4.heap.size w4 wo) := hBr
        clear hBr
        by_cases hin : i < N
        · have hin' : (i : Int) < (N : Int) := by omega
          go_wp2
          go_loopw [80] (fun x wr => ∃ j : Nat, j ≤ N ∧ x = .int .i64 j ∧ Below w4.heap.size w4 wr) (fun x _ => N - (intOf x).toNat)
          case atStart => exact ⟨0, Nat.zero_le _, rfl, HBo.out⟩
          case round =>
            obtain ⟨j, hj, rfl, hBr⟩ := hrel
            clear HBo
            by_cases hjn : j < N
            · have hjn' : (j : Int) < (N : Int) := by omega
              have HBj : Hid (Below w4.heap.size w4 wr) := hBr
              clear hBr
              by_cases hk20 : (20 : Int) < (k : Int)
              · go_wp2
                go_roundw
                case rel => exact ⟨j + 1, by omega, by go_num, HBj.out⟩
                case measure => simp [intOf]; omega
              by_cases hij : i = j
              · have hij' : ((i : Int) == (j : Int)) = true := by simp [hij]
                go_wp2
                go_roundw
                case rel => exact ⟨j + 1, by omega, by go_num, HBj.out⟩
                case measure => simp [intOf]; omega
              have hij' : ((i : Int) == (j : Int)) = false := by simp; omega
              obtain ⟨f1, f2, f3, f4⟩ := HAF.out i j hin hjn hij
              obtain ⟨g2, h2, c2, e2, gl2, q2, s2⟩ := clk_at (H4.out.2.1.next HBj.out) hin
              obtain ⟨g3, h3, c3, e3, gl3, q3, s3⟩ := clk_at (H4.out.2.1.next HBj.out) hjn
              cases e2
              cases e3
              obtain ⟨ab, hab⟩ : ∃ ab, ab = ahB K P M k i j := ⟨_, rfl⟩
              obtain ⟨nv, hnv⟩ : ∃ nv, nv = ccN (vc K P M (i + 1)) 6 (vc K P M (j + 1)) 6 := ⟨_, rfl⟩
              have HI : Hid (∀ W : World, Sl W (some ⟨h2, 0, none⟩) 6 1 (intF (vc K P M (i + 1))) → Sl W (some ⟨h3, 0, none⟩) 6 1 (intF (vc K P M (j + 1))) → Calls Try.prog 23 #[.agg #[.slice (some ⟨h2, 0, none⟩) 6 c2], .agg #[.slice (some ⟨h3, 0, none⟩) 6 c3]] W fun r w' => r = .returned (.tuple #[.int .i64 nv, .bool true]) ∧ Below W.heap.size W w') := fun W h h' => by
                have := compareClock_any (some ⟨h2, 0, none⟩) 6 c2 (vc K P M (i + 1)) (some ⟨h3, 0, none⟩) 6 c3 (vc K P M (j + 1)) W (by omega) (by omega) h h'
                rw [f2, ← hnv] at this; exact this
              have HJ : Hid (∀ W : World, Sl W a4 k 3 (evF K P M) → Calls Try.prog 19 #[.slice a4 k cap4, .int .i64 i, .int .i64 j] W fun r w' => r = .returned (.tuple #[.bool ab, .bool true]) ∧ Below W.heap.size W w') := fun W h => by
                have := specAheadOf_any a4 k cap4 K P M i j W (by omega) hkc h
                unfold AhPost at this
                rw [f1, ← hab] at this; exact this
              rw [← hnv, ← hab] at f3
              rw [← hnv] at f4
              have HSS : Hid (Sl wr (some ⟨h2, 0, none⟩) 6 1 (intF (vc K P M (i + 1))) ∧ Sl wr (some ⟨h3, 0, none⟩) 6 1 (intF (vc K P M (j + 1)))) := ⟨s2, s3⟩
              have HF : Hid ((nv == -1) = ab ∧ nv ≠ 0) := ⟨f3, f4⟩
              clear f1 f2 f3 f4 hab hnv s2 s3
              have HB1j : Hid (Below w1.heap.size w1 wr) := H4.out.1.trans (HBj.out.mono H4.out.1.size)
              go_upto_region 21 with fail
              refine wp_region_noPanic ?_
              refine wp_region_held_drew (S := fun W => W.cell? ⟨g2, i, none⟩ = some (.slice (some ⟨h2, 0, none⟩) 6 c2) ∧ W.cell? ⟨g2, j, none⟩ = some (.slice (some ⟨h3, 0, none⟩) 6 c3)) (by kernel_rfl) ⟨q2, q3⟩ (fun hHeld => ?_)
              refine take_v (v := ?_) 0 ⟨some 92, Op.move (Operand.tmp 6), _, _, _, none⟩ rfl (fun _ _ _ h => h) ?_ hHeld ?_
              rotate_left
              · (intro W _; go_simp <;> (try with_reducible rfl))
              refine take_v (v := ?_) 1 ⟨some 93, Op.move (Operand.tmp 11), _, _, _, none⟩ rfl (fun _ _ _ h => h) ?_ hHeld ?_
              rotate_left
              · (intro W _; go_simp <;> (try with_reducible rfl))
              refine take_v (v := ?_) 2 ⟨some 94, Op.indexAddr 32 (Operand.tmp 92) (Operand.tmp 93), _, _, _, none⟩ rfl (fun _ _ _ h => h) ?_ hHeld ?_
              rotate_left
              · (intro W _; go_simp <;> (try with_reducible rfl))
              refine take_v (v := ?_) 3 ⟨some 95, Op.load 36 (Operand.tmp 94), _, _, _, none⟩ rfl (fun _ _ _ h => h) ?_ hHeld ?_
              rotate_left
              · (intro W hSW; obtain ⟨sw0, sw1⟩ := hSW; go_simp <;> (try with_reducible rfl))
              refine take_v (v := ?_) 4 ⟨some 96, Op.move (Operand.tmp 6), _, _, _, none⟩ rfl (fun _ _ _ h => h) ?_ hHeld ?_
              rotate_left
              · (intro W _; go_simp <;> (try with_reducible rfl))
              refine take_v (v := ?_) 5 ⟨some 97, Op.move (Operand.tmp 12), _, _, _, none⟩ rfl (fun _ _ _ h => h) ?_ hHeld ?_
              rotate_left
              · (intro W _; go_simp <;> (try with_reducible rfl))
              refine take_v (v := ?_) 6 ⟨some 98, Op.indexAddr 32 (Operand.tmp 96) (Operand.tmp 97), _, _, _, none⟩ rfl (fun _ _ _ h => h) ?_ hHeld ?_
              rotate_left
              · (intro W _; go_simp <;> (try with_reducible rfl))
              refine take_v (v := ?_) 7 ⟨some 99, Op.load 36 (Operand.tmp 98), _, _, _, none⟩ rfl (fun _ _ _ h => h) ?_ hHeld ?_
              rotate_left
              · (intro W hSW; obtain ⟨sw0, sw1⟩ := hSW; go_simp <;> (try with_reducible rfl))
              refine ready_call 8 ⟨some 100, Op.call { callee := Callee.value (Operand.func 23), args := #[Operand.tmp 95, Operand.tmp 99], argTypes := #[36, 36] }, _, _, _, none⟩ (by kernel_rfl) rfl (by kernel_rfl) (fun KC hK => ?_)
              go_wp2_with fail
              refine (HI.out _ (HSS.out.1.kept (Below.refl _ _).drew) (HSS.out.2.kept (Below.refl _ _).drew)).mono ?_
              rintro _ w5 ⟨rfl, hb⟩
              have HB5 : Hid (Below w1.heap.size w1 w5 ∧ Below w4.heap.size w4 w5) := ⟨below_next (below_next HB1j.out (Below.refl _ _).drew) hb, below_next (below_next HBj.out (Below.refl _ _).drew) hb⟩
              have q2' := (hb.cell (p := ⟨g2, i, none⟩) gl2).trans q2
              have q3' := (hb.cell (p := ⟨g2, j, none⟩) gl2).trans q3
              clear hb HSS HB1j HBj HI
              refine hK.out _ _ ⟨q2', q3'⟩ (fun hHeld => ?_)
              clear hK KC
              refine take_v (v := ?_) 9 ⟨some 91, Op.move (Operand.tmp 100), _, _, _, none⟩ rfl (fun _ _ _ h => h) ?_ hHeld ?_
              rotate_left
              · (intro W _; go_simp <;> (try with_reducible rfl))
              refine take_v (v := ?_) 10 ⟨some 101, Op.extract (Operand.tmp 91) 0, _, _, _, none⟩ rfl (fun _ _ _ h => h) ?_ hHeld ?_
              rotate_left
              · (intro W _; go_simp <;> (try with_reducible rfl))
              refine take_v (v := ?_) 11 ⟨some 102, Op.extract (Operand.tmp 91) 1, _, _, _, none⟩ rfl (fun _ _ _ h => h) ?_ hHeld ?_
              rotate_left
              · (intro W _; go_simp <;> (try with_reducible rfl))
              refine take_v (v := ?_) 12 ⟨some 13, Op.assign (Operand.tmp 101), _, _, _, none⟩ rfl (fun _ _ _ h => h) ?_ hHeld ?_
              rotate_left
              · (intro W _; go_simp <;> (try with_reducible rfl))
              refine take_v (v := ?_) 13 ⟨some 14, Op.assign (Operand.tmp 102), _, _, _, none⟩ rfl (fun _ _ _ h => h) ?_ hHeld ?_
              rotate_left
              · (intro W _; go_simp <;> (try with_reducible rfl))
              refine wpAnyH_done (by kernel_rfl) ?_ _
              refine NoPanic.normal ?_
              clear q2 q3 q2' q3'
              go_wp2_with fail
              refine (HJ.out _ (HH.out.1.kept HB5.out.1)).mono ?_
              rintro r w6 ⟨rfl, hb⟩
              have HB6 : Hid (Below w4.heap.size w4 w6) := below_next HB5.out.2 hb
              clear hb HB5 HJ
              cases ab
              · have f1 : (nv == -1) = false := HF.out.1
                have f2 : (nv == 0) = false := by have := HF.out.2; simpa using this
                clear HF
                go_wp2
                go_roundw
                case rel => exact ⟨j + 1, by omega, by go_num, HB6.out⟩
                case measure => simp [intOf]; omega
              · have f1 : nv = -1 := by have := HF.out.1; simpa using this
                subst f1
                clear HF
                go_wp2
                go_roundw
                case rel => exact ⟨j + 1, by omega, by go_num, HB6.out⟩
                case measure => simp [intOf]; omega
            · have hjn' : ¬ (j : Int) < (N : Int) := by omega
              have HBj : Hid (Below w4.heap.size w4 wr) := hBr
              clear hBr
              go_wp2
              go_roundw
              case rel => exact ⟨i + 1, by omega, by go_num, HBj.out⟩
              case measure => simp [intOf]; omega
        · have hin' : ¬ (i : Int) < (N : Int) := by omega
          have HB : Hid (Below w.heap.size w wo) := H4.out.2.2.trans (HBo.out.mono H4.out.2.2.size)
          clear HBo H4 HAF HH
          go_wp2_with fail
          refine (drawMerge_any _ _ _ Y _ hm' (HS.out.2.1.below HB.out (Nat.le_refl _)) HS.out.2.2).mono ?_
          rintro _ w5 ⟨a1, n1, c1, Z1, a2, n2, c2, Z2, rfl, hn1, hn2, s1, s2, hb, _, _⟩
          have H5 : Hid (Sl w5 a1 n1 1 (intF Z1) ∧ Sl w5 a2 n2 1 (intF Z2) ∧ Below w.heap.size w w5) := ⟨s1, s2, HB.out.trans (hb.mono HB.out.size)⟩
          clear s1 s2 hb HB HS
          obtain ⟨W, hW⟩ : ∃ W, W = (w5.alloc (.cells #[.slice a1 n1 c1] 36)).alloc (.cells #[.slice a2 n2 c2] 36) := ⟨_, rfl⟩
          have hbW : Below w5.heap.size w5 W := by rw [hW]; exact ((Below.refl _ _).alloc (Nat.le_refl _) _).alloc (by simp) _
          have HW : Hid (Sl W a1 n1 1 (intF Z1) ∧ Sl W a2 n2 1 (intF Z2) ∧ BoxS W w5.heap.size (.slice a1 n1 c1) ∧ BoxS W (w5.heap.size + 1) (.slice a2 n2 c2) ∧ Below w.heap.size w W) := by
            refine ⟨H5.out.1.kept hbW, H5.out.2.1.kept hbW, ?_, ?_, below_next H5.out.2.2 hbW⟩
            · rw [hW]; exact (BoxS.new _ _ _).next (Go.Joins.below_alloc1 _ _)
            · rw [hW]; have := BoxS.new (w5.alloc (.cells #[.slice a1 n1 c1] 36)) (.slice a2 n2 c2) 36; simpa using this
          go_wp2_with fail
          rw [← hW]
          clear hW hbW H5
          generalize w5.heap.size = s at *
          refine (mergeClock_any _ _ _ Z1 _ _ _ Z2 _ (by omega) (by omega) HW.out.1 HW.out.2.1).mono ?_
          rintro _ w6 ⟨⟨a6, c6, rfl, hi⟩, hb⟩
          obtain ⟨q, hq⟩ : ∃ q, q = mgN Z1 n1 Z2 n2 := ⟨_, rfl⟩
          obtain ⟨ok, hok⟩ : ∃ ok, ok = ccOk Z1 n1 Z2 n2 := ⟨_, rfl⟩
          have HM : Hid ((ok = false → q = 0) ∧ (ok = true → q = 6 ∧ (ccOk Z1 n1 (mgV Z1 Z2) 6 = true ∧ ccN Z1 n1 (mgV Z1 Z2) 6 ≤ 0) ∧ ccOk Z2 n2 (mgV Z1 Z2) 6 = true ∧ ccN Z2 n2 (mgV Z1 Z2) 6 ≤ 0)) := by
            rw [hq, hok, mgN]
            exact ⟨fun h => by simp [h], fun h => ⟨by simp [h], merge_facts h⟩⟩
          have HQ : Hid (q = mgN Z1 n1 Z2 n2 ∧ ok = ccOk Z1 n1 Z2 n2) := ⟨hq, hok⟩
          rw [← hq] at hi
          rw [← hq, ← hok]
          clear hq hok
          have H6 : Hid (Sl w6 a1 n1 1 (intF Z1) ∧ Sl w6 a2 n2 1 (intF Z2) ∧ BoxS w6 s (.slice a1 n1 c1) ∧ BoxS w6 (s + 1) (.slice a2 n2 c2) ∧ Sl w6 a6 q 1 (intF (mgV Z1 Z2)) ∧ Below w.heap.size w w6) := ⟨HW.out.1.kept hb, HW.out.2.1.kept hb, HW.out.2.2.1.next hb, HW.out.2.2.2.1.next hb, hi.sl, below_next HW.out.2.2.2.2 hb⟩
          clear hb hi HW
          obtain ⟨x1, l1⟩ := H6.out.2.2.1
          obtain ⟨x2, l2⟩ := H6.out.2.2.2.1
          have hA : Hid (Below w6.heap.size w6 (w6.alloc (.cells #[.slice a6 q c6] 36)) ∧ BoxS (w6.alloc (.cells #[.slice a6 q c6] 36)) w6.heap.size (.slice a6 q c6)) := ⟨Go.Joins.below_alloc1 _ _, BoxS.new _ _ _⟩
          go_wp2_with fail
          refine (specMergeClock_any _ _ _ Z1 _ _ _ Z2 _ (by omega) (by omega) (H6.out.1.kept hA.out.1) (H6.out.2.1.kept hA.out.1)).mono ?_
          rintro _ w7 ⟨⟨a7, c7, rfl, _⟩, hb⟩
          rw [← HQ.out.1, ← HQ.out.2]
          clear HQ
          have hA7 := below_next hA.out.1 hb
          have H7 : Hid (Sl w7 a1 n1 1 (intF Z1) ∧ Sl w7 a2 n2 1 (intF Z2) ∧ BoxS w7 s (.slice a1 n1 c1) ∧ BoxS w7 (s + 1) (.slice a2 n2 c2) ∧ Sl w7 a6 q 1 (intF (mgV Z1 Z2)) ∧ BoxS w7 w6.heap.size (.slice a6 q c6) ∧ Below w.heap.size w w7) := ⟨H6.out.1.kept hA7, H6.out.2.1.kept hA7, H6.out.2.2.1.next hA7, H6.out.2.2.2.1.next hA7, H6.out.2.2.2.2.1.kept hA7, hA.out.2.next hb, below_next H6.out.2.2.2.2.2 hA7⟩
          clear hb hA hA7 H6 x1 x2 l1 l2
          generalize w6.heap.size = s6 at *
          obtain ⟨x1, l1⟩ := H7.out.2.2.1
          obtain ⟨x2, l2⟩ := H7.out.2.2.2.1
          obtain ⟨x6, l6⟩ := H7.out.2.2.2.2.2.1
          have hA : Hid (Below w7.heap.size w7 (w7.alloc (.cells #[.slice a7 q c7] 36))) := Go.Joins.below_alloc1 _ _
          cases ok
          · have hq := HM.out.1 rfl
            subst hq
            have HF : Hid (Below w.heap.size w (w7.alloc (.cells #[.slice a7 0 c7] 36))) := below_next H7.out.2.2.2.2.2.2 hA.out
            clear H7 HM hA
            go_wp2
            go_ret
            exact ⟨rfl, HF.out⟩
          · obtain ⟨hq, ⟨f1, f2⟩, f3, f4⟩ := HM.out.2 rfl
            subst hq
            obtain ⟨v1, hv1⟩ : ∃ v, v = ccN Z1 n1 (mgV Z1 Z2) 6 := ⟨_, rfl⟩
            obtain ⟨v2, hv2⟩ : ∃ v, v = ccN Z2 n2 (mgV Z1 Z2) 6 := ⟨_, rfl⟩
            have HC1 : Hid (∀ W : World, Sl W a1 n1 1 (intF Z1) → Sl W a6 6 1 (intF (mgV Z1 Z2)) → Calls Try.prog 23 #[.agg #[.slice a1 n1 c1], .agg #[.slice a6 6 c6]] W fun r w' => r = .returned (.tuple #[.int .i64 v1, .bool true]) ∧ Below W.heap.size W w') := fun W h h' => by
              have := compareClock_any a1 n1 c1 Z1 a6 6 c6 (mgV Z1 Z2) W (by omega) (by omega) h h'
              rw [f1, ← hv1] at this; exact this
            have HC2 : Hid (∀ W : World, Sl W a2 n2 1 (intF Z2) → Sl W a6 6 1 (intF (mgV Z1 Z2)) → Calls Try.prog 23 #[.agg #[.slice a2 n2 c2], .agg #[.slice a6 6 c6]] W fun r w' => r = .returned (.tuple #[.int .i64 v2, .bool true]) ∧ Below W.heap.size W w') := fun W h h' => by
              have := compareClock_any a2 n2 c2 Z2 a6 6 c6 (mgV Z1 Z2) W (by omega) (by omega) h h'
              rw [f3, ← hv2] at this; exact this
            rw [← hv1] at f2
            rw [← hv2] at f4
            clear hv1 hv2 f1 f3 HM
            go_wp2_with fail
            refine (HC1.out _ (H7.out.1.kept hA.out) (H7.out.2.2.2.2.1.kept hA.out)).mono ?_
            rintro _ w8 ⟨rfl, hb⟩
            have hA8 := below_next hA.out hb
            have H8 : Hid (Sl w8 a2 n2 1 (intF Z2) ∧ Sl w8 a6 6 1 (intF (mgV Z1 Z2)) ∧ Below w.heap.size w w8) := ⟨H7.out.2.1.kept hA8, H7.out.2.2.2.2.1.kept hA8, below_next H7.out.2.2.2.2.2.2 hA8⟩
            clear x1 x2 x6 l1 l2 l6
            obtain ⟨x2, l2⟩ := H7.out.2.2.2.1.next hA8
            obtain ⟨x6, l6⟩ := H7.out.2.2.2.2.2.1.next hA8
            clear hb hA8 hA H7 HC1
            go_wp2_with fail
            refine (HC2.out _ H8.out.1 H8.out.2.1).mono ?_
            rintro _ w9 ⟨rfl, hb⟩
            have H9 : Hid (Below w.heap.size w w9) := below_next H8.out.2.2 hb
            clear hb H8 HC2 x2 x6 l2 l6
            go_wp2
            go_ret
            exact ⟨rfl, H9.out⟩


theorem own : ownKnob Try.prog.godebug = none := by kernel_rfl
theorem laidOut : laidOutB Try.prog = true := by kernel_rfl

set_option maxRecDepth 100000 in
theorem lifted (os : Os) (started : os.Started) (H : Type) (enc : TypeId × Value → H) :
    ReturnsInHanded {} Try.checked os 4 .any (Rows.fnVectorSpec.pre6 enc Try.prog Try.f4 Rows.fnVectorRow.domain false) (Rows.fnVectorSpec.post enc Try.prog Try.f4 false true false false) := by
  refine returnsInHanded_of_change (C := Try.checked) own started (by kernel_rfl) Try.func4
    (ChangeSpec.witness6 (enc := enc) (C := Try.checked) false ⟨#[], #[.slice none 0 0, .slice none 0 0], []⟩ 8 (by kernel_rfl) (by kernel_rfl) (by kernel_rfl) (by kernel_rfl)) ?_
  intro W base args ds gs before hval0 hW hcnd _
  have hval : ∀ (j : Nat) t v, Try.f4.params[j]? = some t → args[j]? = some v → Value.okWide Try.prog W .any base t v := hval0
  have hW' := hW
  obtain ⟨p, q, hA0, hV, rfl, hfz, hnd⟩ := hW
  have hA : DataW.TrodAll enc Try.prog W 0 (fun _ => true) true Try.f4.params.toList args.toList ds p := hA0
  rw [Try.params4] at hA hval
  obtain ⟨v0, vs0, d0, ds0, p0, q0, hargs, rfl, rfl, h0, r0⟩ := trodAll_cons hA
  obtain ⟨v1, vs1, d1, ds1, p1, q1, rfl, rfl, rfl, h1, r1⟩ := trodAll_cons r0
  obtain ⟨rfl, rfl, rfl⟩ := trodAll_nil r1
  obtain rfl : args = #[v0, v1] := by cases args; simp_all
  obtain ⟨rfl, rfl⟩ := trodVars_none hV
  have k0 := h0
  have lt0 : ∀ x ∈ p0, x.block < W.heap.size := by obtain ⟨m, hm⟩ := k0; exact DataW.trod_lt m _ _ _ hm
  obtain ⟨a0, len0, cap0, rfl⟩ := okWide_slice Try.underlying22 (hval 0 22 v0 rfl rfl)
  obtain ⟨n0, X0, s0, b0⟩ := open_bytes h0
  have k1 := h1
  have lt1 : ∀ x ∈ p1, x.block < W.heap.size := by obtain ⟨m, hm⟩ := k1; exact DataW.trod_lt m _ _ _ hm
  obtain ⟨a1, len1, cap1, rfl⟩ := okWide_slice Try.underlying22 (hval 1 22 v1 rfl rfl)
  obtain ⟨n1, X1, s1, b1⟩ := open_bytes h1
  clear hA0 hval0
  refine (walk (w := W) a0 len0 cap0 X0 n0 s0 b0 a1 len1 cap1 X1 n1 s1 b1).mono fun e W' ⟨he, bel⟩ => ?_
  subst he
  exact ⟨_, rfl, _, _, _, [], _, [], hW', trodAll_mk1 (shut_bool Try.underlying4 _), (trodAll_cons_mk (Below.trod laidOut (by kernel_rfl) (of_decide_eq_true (by kernel_rfl)) k0 bel lt0) (trodAll_cons_mk (Below.trod laidOut (by kernel_rfl) (of_decide_eq_true (by kernel_rfl)) k1 bel lt1) trodAll_mk0)), rfl, bel.frame _, fun h => by cases h⟩

set_option maxHeartbeats 40000000 in
theorem closed : joinedFacts Try.pinned.checked.prog 4 Try.f4 Rows.fnVectorSpec Rows.fnVectorRow = true := by
  unfold joinedFacts
  repeat' (first | (with_reducible refine both ?_ ?_) | (with_reducible exact may_enter') | (with_reducible refine lifts_eq ?_) | (with_reducible refine make_eq ?_) | as_aux_lemma => kernel_rfl)
theorem named : Try.pinned.checked.prog.funcNamed Rows.fnVectorRow.func = some 4 := by kernel_rfl
theorem over : Rows.fnVectorRow.holds Try.pinned (OpenSpec.ofChange Rows.fnVectorSpec) :=
  OpenClaim.holds_of_wide 4 Try.f4 rfl rfl rfl rfl rfl rfl rfl ⟨rfl, rfl, rfl, rfl, rfl⟩ rfl rfl rfl rfl rfl named Try.func4 closed
    (of_decide_eq_true (by as_aux_lemma => kernel_rfl)) (by unfold Func.isWrapper; first | (rw [if_pos (by decide +kernel)]; kernel_rfl) | (rw [if_neg (by decide +kernel)]; exact ⟨rfl, rfl⟩))
    (fun os started H enc _ => lifted os started H enc)

end Go.Proofs.Ytjophhiccbkpjaa.fVector
namespace Go.Proofs.Ytjophhiccbkpjaa
theorem fVector_holds : Rows.FnVectorSaid := fVector.over
#print axioms fVector_holds
end Go.Proofs.Ytjophhiccbkpjaa
