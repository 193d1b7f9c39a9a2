/- The next tid is of its epoch, greater than all, and none of its epoch is less and greater than all, for drawn tids: the law FnNext. -/
import Derived.Test.YtbklhmeaoigneaaDrN
import Derived.Test.YtbklhmeaoigneaaOpenB
import Derived.Test.YtbklhmeaoigneaaWords
import Derived.ProofKit
import Derived.OpenShut
import Derived.ShutString
import Derived.ChangeOld
import Derived.Below
import Derived.Lib.SmallJoins
namespace Go.Proofs.Ytbklhmeaoigneaa.fNext
open Go.ChangeShapes Go.WideShapes Go.ChangeAt Go.RowKit
open Go.ChangeMaps (open_string shut_string)
set_option linter.unusedVariables false

theorem ok_parts {E S : Nat → Int} {ep : Int} {n : Nat} (h : nextOk E S ep n = true) : (0 ≤ ep ∧ ep ≤ 1048575) ∧ (∀ i, i < n → goodT (E i) (S i) = true) ∧ (∀ i, i < n → E i ≤ ep) ∧ nextS E S ep n ≤ 16777215 := by
  simp only [nextOk, Bool.and_eq_true, decide_eq_true_eq] at h
  obtain ⟨⟨⟨_, h1⟩, h2⟩, h3, h4⟩ := h
  exact ⟨by simpa [inR] using h1, (allGood_iff E S n).1 h2, (allLe_iff E ep n).1 h3, h4⟩
theorem nextS_gt (E S : Nat → Int) (ep : Int) : ∀ k i, i < k → E i = ep → S i < nextS E S ep k
  | k + 1, i, hi, he => by
    simp only [nextS]
    by_cases e : i = k
    · subst e
      split
      · omega
      · rename_i hc; omega
    · have := nextS_gt E S ep k i (by omega) he
      split
      · rename_i hc; omega
      · exact this
theorem nextS_hit (E S : Nat → Int) (ep : Int) : ∀ k, 0 < nextS E S ep k → ∃ i, i < k ∧ E i = ep ∧ S i = nextS E S ep k - 1
  | 0, h => by simp [nextS] at h
  | k + 1, h => by
    simp only [nextS] at h ⊢
    split
    · rename_i hc
      exact ⟨k, by omega, hc.1, by omega⟩
    · rename_i hc
      rw [if_neg hc] at h
      obtain ⟨i, hi, he, hs⟩ := nextS_hit E S ep k h
      exact ⟨i, by omega, he, hs⟩
theorem cmpR_gt {e s e' s' : Int} (h : goodT e s = true) (h' : goodT e' s' = true) (hl : e' < e ∨ (e' = e ∧ s' < s)) : cmpR e s e' s' = 1 := by
  simp only [cmpR, h, h', Bool.and_self, if_true, cmpT, cmpI]
  repeat' split
  all_goals omega
theorem cmpR_eq {e s : Int} : cmpR e s e s = 0 := by
  unfold cmpR cmpT cmpI
  simp
theorem nextGood (a : Option Addr) (n cap : Nat) (E S : Nat → Int) (B : Nat → Bool) (ep z : Int) (w : World) (hn : n ≤ 1048576) (hs : Sl w a n 3 (tidF E S B)) (h : nextOk E S ep n = true) (hz : z = nextS E S ep n) :
    Calls Try.prog 24 #[.slice a n cap, .int .i64 ep] w fun r w' => r = .returned (.tuple #[.agg #[.int .i64 ep, .int .i64 z, .bool false], .bool true]) ∧ Below w.heap.size w w' := by
  refine (next_any a n cap E S B ep w hn hs).mono fun r w' hr => ⟨?_, hr.2⟩
  rw [hr.1, hz]; exact (next_yes h).symm
theorem specGood (a : Option Addr) (n cap : Nat) (E S : Nat → Int) (B : Nat → Bool) (ep z : Int) (w : World) (hn : n ≤ 1048576) (hs : Sl w a n 3 (tidF E S B)) (h : nextOk E S ep n = true) (hz : z = nextS E S ep n) :
    Calls Try.prog 25 #[.slice a n cap, .int .i64 ep] w fun r w' => r = .returned (.tuple #[.agg #[.int .i64 ep, .int .i64 z, .bool false], .bool true]) ∧ Below w.heap.size w w' := by
  refine (specNext_any a n cap E S B ep w hn hs).mono fun r w' hr => ⟨?_, hr.2⟩
  rw [hr.1, hz]; exact (next_yes h).symm
theorem nextBad (a : Option Addr) (n cap : Nat) (E S : Nat → Int) (B : Nat → Bool) (ep : Int) (w : World) (hn : n ≤ 1048576) (hs : Sl w a n 3 (tidF E S B)) (h : nextOk E S ep n = false) :
    Calls Try.prog 24 #[.slice a n cap, .int .i64 ep] w fun r w' => r = .returned (.tuple #[.agg #[.int .i64 0, .int .i64 0, .bool false], .bool false]) ∧ Below w.heap.size w w' := by
  refine (next_any a n cap E S B ep w hn hs).mono fun r w' hr => ⟨?_, hr.2⟩
  rw [hr.1]; exact (next_no h).symm
theorem specBad (a : Option Addr) (n cap : Nat) (E S : Nat → Int) (B : Nat → Bool) (ep : Int) (w : World) (hn : n ≤ 1048576) (hs : Sl w a n 3 (tidF E S B)) (h : nextOk E S ep n = false) :
    Calls Try.prog 25 #[.slice a n cap, .int .i64 ep] w fun r w' => r = .returned (.tuple #[.agg #[.int .i64 0, .int .i64 0, .bool false], .bool false]) ∧ Below w.heap.size w w' := by
  refine (specNext_any a n cap E S B ep w hn hs).mono fun r w' hr => ⟨?_, hr.2⟩
  rw [hr.1]; exact (next_no h).symm

set_option maxRecDepth 100000 in
set_option maxHeartbeats 4000000 in
theorem walk (a : Option Addr) (n cap : Nat) (X : Nat → Int) (w : World) (hm : n ≤ maxLen) (hs : Sl w a n 1 (byF X)) (hX : ∀ i, i < n → 0 ≤ X i ∧ X i ≤ 255) :
    Calls Try.prog 4 #[.slice a n cap] w fun r w' => r = .returned (.bool true) ∧ Below w.heap.size w w' := by
  unfold maxLen at hm
  have HS : Hid (Sl w a n 1 (byF X) ∧ ∀ i, i < n → 0 ≤ X i ∧ X i ≤ 255) := ⟨hs, hX⟩
  clear hs hX
  by_cases hlt : (1048576 : Int) < (n : Int)
  case pos =>
    go_enter Try.func4, Try.ntmps4
    go_wp2
    go_ret
    exact ⟨rfl, Below.refl _ _⟩
  case neg =>
  go_enter Try.func4, Try.ntmps4
  go_wp2_with fail
  refine (drawNext_any _ _ _ X _ hm HS.out.1 HS.out.2).mono ?_
  rintro r w1 ⟨a4, k, cap4, E, S, B, ep, hk, rfl, hsl, hb⟩
  have H1 : Hid (Sl w1 a4 k 3 (tidF E S B) ∧ Below w.heap.size w w1) := ⟨hsl, hb⟩
  clear hsl hb HS
  cases hok : nextOk E S ep k
  · have HK : Hid (nextOk E S ep k = false) := hok
    clear hok
    go_wp2_with fail
    refine (nextBad _ _ _ E S B _ _ (by omega) H1.out.1 HK.out).mono ?_
    rintro r w2 ⟨rfl, hb⟩
    have H2 : Hid (Sl w2 a4 k 3 (tidF E S B) ∧ Below w.heap.size w w2) := ⟨H1.out.1.below hb (Nat.le_refl _), H1.out.2.trans (hb.mono H1.out.2.size)⟩
    clear hb H1
    go_wp2_with fail
    refine (specBad _ _ _ E S B _ _ (by omega) (H2.out.1.below (Go.Joins.below_alloc1 _ _) (Nat.le_refl _)) HK.out).mono ?_
    rintro r w3 ⟨rfl, hb⟩
    obtain ⟨c0, c1, c2, _, _, _, cz⟩ := (T3.new w2 0 0 false 24).next hb
    have H3 : Hid (Below w.heap.size w w3) := (H2.out.2.alloc H2.out.2.size _).trans (hb.mono (by have := H2.out.2.size; simp; omega))
    have hz3 : w.heap.size ≤ w3.heap.size := H3.out.size
    clear hb H2
    go_wp2
    go_ret
    exact ⟨rfl, H3.out.alloc hz3 _⟩
  · have HK : Hid (nextOk E S ep k = true) := hok
    obtain ⟨hep, hgd, hle, hzm⟩ := ok_parts hok
    have hz0 := (nextS_bd E S ep k (fun i hi => by have := (good_iff _ _).1 (hgd i hi); omega)).1
    obtain ⟨z, hz⟩ : ∃ z, z = nextS E S ep k := ⟨_, rfl⟩
    rw [← hz] at hz0 hzm
    have hgz : goodT ep z = true := (good_iff _ _).2 ⟨hep, hz0, hzm⟩
    have HG : Hid (∀ i, i < k → (goodT ep z && goodT (E i) (S i)) = true ∧ cmpR ep z (E i) (S i) = 1) := fun i hi => by
      refine ⟨by rw [hgz, hgd i hi]; rfl, cmpR_gt hgz (hgd i hi) ?_⟩
      have h1 := hle i hi
      rcases Int.lt_or_eq_of_le h1 with q | q
      · exact Or.inl q
      · exact Or.inr ⟨q, by rw [hz]; exact nextS_gt E S ep k i hi q⟩
    have HT : Hid (0 < z → ∃ i, i < k ∧ cmpR ep (z - 1) (E i) (S i) = 0) := fun h => by
      rw [hz] at h
      obtain ⟨i, hi, he, hsi⟩ := nextS_hit E S ep k h
      exact ⟨i, hi, by rw [he, hsi, ← hz]; exact cmpR_eq⟩
    have HZ : Hid (z = nextS E S ep k) := hz
    clear hok hgd hle hz hgz
    go_wp2_with fail
    refine (nextGood _ _ _ E S B _ z _ (by omega) H1.out.1 HK.out HZ.out).mono ?_
    rintro r w2 ⟨rfl, hb⟩
    have H2 : Hid (Sl w2 a4 k 3 (tidF E S B) ∧ Below w.heap.size w w2) := ⟨H1.out.1.below hb (Nat.le_refl _), H1.out.2.trans (hb.mono H1.out.2.size)⟩
    clear hb H1
    go_wp2_with fail
    refine (specGood _ _ _ E S B _ z _ (by omega) (H2.out.1.below (Go.Joins.below_alloc1 _ _) (Nat.le_refl _)) HK.out HZ.out).mono ?_
    rintro r w3 ⟨rfl, hb⟩
    obtain ⟨c0, c1, c2, _, _, _, cz⟩ := (T3.new w2 ep z false 24).next hb
    have H3 : Hid (T3 w3 w2.heap.size ep z false ∧ Sl w3 a4 k 3 (tidF E S B) ∧ Below w.heap.size w w3) := ⟨(T3.new w2 ep z false 24).next hb, (H2.out.1.below (Go.Joins.below_alloc1 _ _) (Nat.le_refl _)).below hb (Nat.le_refl _), (H2.out.2.alloc H2.out.2.size _).trans (hb.mono (by have := H2.out.2.size; simp; omega))⟩
    have hz3 : w.heap.size ≤ w3.heap.size := H3.out.2.2.size
    clear hb H2 HZ
    have hT : T3 ((w3.alloc (.cells #[.int .i64 ep, .int .i64 z, .bool false] 24)).alloc (.cells #[.int .i64 ep, .int .i64 (z - 1), .bool false] 24)) (w3.heap.size + 1) ep (z - 1) false := by
      have := T3.new (w3.alloc (.cells #[.int .i64 ep, .int .i64 z, .bool false] 24)) ep (z - 1) false 24
      simpa using this
    have H4 : Hid (T3 ((w3.alloc (.cells #[.int .i64 ep, .int .i64 z, .bool false] 24)).alloc (.cells #[.int .i64 ep, .int .i64 (z - 1), .bool false] 24)) (w3.heap.size + 1) ep (z - 1) false) := hT
    clear hT
    by_cases hz1 : 0 < z
    · go_wp2
      clear c0 c1 c2 cz
      go_loopw [62, 11] (fun i v wr => ∃ (j : Nat) (gr : Bool), j ≤ k ∧ i = .int .i64 j ∧ v = .bool gr ∧ (gr = true → 0 < z ∧ ∀ i, i < j → 0 < cmpR ep (z - 1) (E i) (S i)) ∧ T3 wr w2.heap.size ep z false ∧ T3 wr (w3.heap.size + 1) ep (z - 1) false ∧ Sl wr a4 k 3 (tidF E S B) ∧ Below w.heap.size w wr) (fun i _ _ => k - (intOf i).toNat)
      case atStart => exact ⟨0, true, Nat.zero_le _, rfl, rfl, fun h => ⟨hz1, fun i hi => absurd hi (by omega)⟩, (H3.out.1.next (Go.Joins.below_alloc1 _ _)).next (Go.Joins.below_alloc1 _ _), H4.out, (H3.out.2.1.below (Go.Joins.below_alloc1 _ _) (Nat.le_refl _)).below (Go.Joins.below_alloc1 _ _) (Nat.le_refl _), (H3.out.2.2.alloc hz3 _).alloc (by simp; omega) _⟩
      case round =>
        obtain ⟨j, gr, hj, rfl, rfl, hgr, hA, hD, hsl, hB⟩ := hrel
        clear H3 H4
        by_cases hjk : j < k
        · rcases hsl with h | ⟨b, off, rfl, hbs, hE⟩
          · omega
          obtain ⟨e0, e1, e2⟩ := tid_cells hE hjk
          obtain ⟨c0, c1, c2, _, _, _, cz⟩ := hA
          have hjk' : (j : Int) < (k : Int) := by omega
          have HH : Hid ((gr = true → 0 < z ∧ ∀ i, i < j → 0 < cmpR ep (z - 1) (E i) (S i)) ∧ T3 wr w2.heap.size ep z false ∧ T3 wr (w3.heap.size + 1) ep (z - 1) false ∧ Sl wr (some ⟨b, off, none⟩) k 3 (tidF E S B) ∧ Below w.heap.size w wr) := ⟨hgr, ⟨c0, c1, c2, by assumption, by assumption, by assumption, cz⟩, hD, Or.inr ⟨b, off, rfl, hbs, hE⟩, hB⟩
          have hzr : w.heap.size ≤ wr.heap.size := hB.size
          clear hgr hD hE hB
          go_wp2_with fail
          refine (compare_any _ _ _ _ _ _ _).mono ?_
          rintro r w5 ⟨rfl, hb⟩
          rw [(HG.out j hjk).1, (HG.out j hjk).2]
          have H5 : Hid (T3 w5 w2.heap.size ep z false ∧ T3 w5 (w3.heap.size + 1) ep (z - 1) false ∧ T3 w5 wr.heap.size (E j) (S j) (B j) ∧ Sl w5 (some ⟨b, off, none⟩) k 3 (tidF E S B) ∧ Below w.heap.size w w5) := ⟨(HH.out.2.1.next (Go.Joins.below_alloc1 _ _)).next hb, (HH.out.2.2.1.next (Go.Joins.below_alloc1 _ _)).next hb, (T3.new _ _ _ _ _).next hb, (HH.out.2.2.2.1.below (Go.Joins.below_alloc1 _ _) (Nat.le_refl _)).below hb (Nat.le_refl _), (HH.out.2.2.2.2.alloc hzr _).trans (hb.mono (by simp; omega))⟩
          clear hb c0 c1 c2 cz e0 e1 e2
          obtain ⟨d0, d1, d2, _, _, _, dz⟩ := H5.out.2.1
          obtain ⟨x0, x1, x2, _, _, _, xz⟩ := H5.out.2.2.1
          go_wp2_with fail
          refine (specCompare_any _ _ _ _ _ _ _).mono ?_
          rintro r w6 ⟨rfl, hb⟩
          have H6 : Hid (T3 w6 w2.heap.size ep z false ∧ T3 w6 (w3.heap.size + 1) ep (z - 1) false ∧ Sl w6 (some ⟨b, off, none⟩) k 3 (tidF E S B) ∧ Below w.heap.size w w6) := ⟨H5.out.1.next hb, H5.out.2.1.next hb, H5.out.2.2.2.1.below hb (Nat.le_refl _), H5.out.2.2.2.2.trans (hb.mono H5.out.2.2.2.2.size)⟩
          obtain ⟨m, hm⟩ : ∃ m, m = cmpR ep (z - 1) (E j) (S j) := ⟨_, rfl⟩
          have HM : Hid (m = cmpR ep (z - 1) (E j) (S j)) := hm
          rw [← hm]
          clear hb H5 d0 d1 d2 dz x0 x1 x2 xz hm
          generalize (goodT ep (z - 1) && goodT (E j) (S j)) = gg
          cases gr
          · go_wp2
            go_roundw
            case rel => exact ⟨j + 1, false, by omega, by go_num, rfl, (fun h => by cases h), H6.out⟩
            case measure => simp [intOf]; omega
          · by_cases hm0 : 0 < m
            · go_wp2
              go_roundw
              case rel => exact ⟨j + 1, true, by omega, by go_num, rfl, fun _ => ⟨hz1, upto_succ (HH.out.1 (by first | rfl | trivial)).2 (by rw [← HM.out]; exact hm0)⟩, H6.out⟩
              case measure => simp [intOf]; omega
            · go_wp2
              go_roundw
              case rel => exact ⟨j + 1, false, by omega, by go_num, (by first | rfl | rw [decide_eq_false (show ¬ 0 < m by omega)]), (fun h => by cases h), H6.out⟩
              case measure => simp [intOf]; omega
        · have hkn : j = k := by omega
          subst hkn
          have hgf : gr = false := by
            cases gr
            · rfl
            · obtain ⟨h0, hall⟩ := hgr rfl
              obtain ⟨i, hi, e⟩ := HT.out h0
              have := hall i hi
              omega
          subst hgf
          obtain ⟨c0, c1, c2, _, _, _, cz⟩ := hA
          have HB : Hid (Below w.heap.size w wr) := hB
          clear hgr hD hsl hB
          go_wp2
          go_ret
          exact ⟨rfl, HB.out⟩

    · go_wp2
      clear c0 c1 c2 cz
      go_loopw [62, 11] (fun i v wr => ∃ (j : Nat) (gr : Bool), j ≤ k ∧ i = .int .i64 j ∧ v = .bool gr ∧ (gr = true → 0 < z ∧ ∀ i, i < j → 0 < cmpR ep (z - 1) (E i) (S i)) ∧ T3 wr w2.heap.size ep z false ∧ T3 wr (w3.heap.size + 1) ep (z - 1) false ∧ Sl wr a4 k 3 (tidF E S B) ∧ Below w.heap.size w wr) (fun i _ _ => k - (intOf i).toNat)
      case atStart => exact ⟨0, false, Nat.zero_le _, rfl, (by first | rfl | rw [decide_eq_false (show ¬ 0 < z by omega)]), (fun h => by cases h), (H3.out.1.next (Go.Joins.below_alloc1 _ _)).next (Go.Joins.below_alloc1 _ _), H4.out, (H3.out.2.1.below (Go.Joins.below_alloc1 _ _) (Nat.le_refl _)).below (Go.Joins.below_alloc1 _ _) (Nat.le_refl _), (H3.out.2.2.alloc hz3 _).alloc (by simp; omega) _⟩
      case round =>
        obtain ⟨j, gr, hj, rfl, rfl, hgr, hA, hD, hsl, hB⟩ := hrel
        clear H3 H4
        by_cases hjk : j < k
        · rcases hsl with h | ⟨b, off, rfl, hbs, hE⟩
          · omega
          obtain ⟨e0, e1, e2⟩ := tid_cells hE hjk
          obtain ⟨c0, c1, c2, _, _, _, cz⟩ := hA
          have hjk' : (j : Int) < (k : Int) := by omega
          have HH : Hid ((gr = true → 0 < z ∧ ∀ i, i < j → 0 < cmpR ep (z - 1) (E i) (S i)) ∧ T3 wr w2.heap.size ep z false ∧ T3 wr (w3.heap.size + 1) ep (z - 1) false ∧ Sl wr (some ⟨b, off, none⟩) k 3 (tidF E S B) ∧ Below w.heap.size w wr) := ⟨hgr, ⟨c0, c1, c2, by assumption, by assumption, by assumption, cz⟩, hD, Or.inr ⟨b, off, rfl, hbs, hE⟩, hB⟩
          have hzr : w.heap.size ≤ wr.heap.size := hB.size
          clear hgr hD hE hB
          go_wp2_with fail
          refine (compare_any _ _ _ _ _ _ _).mono ?_
          rintro r w5 ⟨rfl, hb⟩
          rw [(HG.out j hjk).1, (HG.out j hjk).2]
          have H5 : Hid (T3 w5 w2.heap.size ep z false ∧ T3 w5 (w3.heap.size + 1) ep (z - 1) false ∧ T3 w5 wr.heap.size (E j) (S j) (B j) ∧ Sl w5 (some ⟨b, off, none⟩) k 3 (tidF E S B) ∧ Below w.heap.size w w5) := ⟨(HH.out.2.1.next (Go.Joins.below_alloc1 _ _)).next hb, (HH.out.2.2.1.next (Go.Joins.below_alloc1 _ _)).next hb, (T3.new _ _ _ _ _).next hb, (HH.out.2.2.2.1.below (Go.Joins.below_alloc1 _ _) (Nat.le_refl _)).below hb (Nat.le_refl _), (HH.out.2.2.2.2.alloc hzr _).trans (hb.mono (by simp; omega))⟩
          clear hb c0 c1 c2 cz e0 e1 e2
          have hgf : gr = false := by
            cases gr
            · rfl
            · exact absurd (HH.out.1 (by first | rfl | trivial)).1 (by omega)
          subst hgf
          have H6 : Hid (T3 w5 w2.heap.size ep z false ∧ T3 w5 (w3.heap.size + 1) ep (z - 1) false ∧ Sl w5 (some ⟨b, off, none⟩) k 3 (tidF E S B) ∧ Below w.heap.size w w5) := ⟨H5.out.1, H5.out.2.1, H5.out.2.2.2⟩
          go_wp2
          go_roundw
          case rel => exact ⟨j + 1, false, by omega, by go_num, rfl, (fun h => by cases h), H6.out⟩
          case measure => simp [intOf]; omega
        · have hkn : j = k := by omega
          subst hkn
          have hgf : gr = false := by
            cases gr
            · rfl
            · obtain ⟨h0, hall⟩ := hgr rfl
              obtain ⟨i, hi, e⟩ := HT.out h0
              have := hall i hi
              omega
          subst hgf
          obtain ⟨c0, c1, c2, _, _, _, cz⟩ := hA
          have HB : Hid (Below w.heap.size w wr) := hB
          clear hgr hD hsl hB
          go_wp2
          go_ret
          exact ⟨rfl, HB.out⟩


theorem own : ownKnob Try.prog.godebug = none := by kernel_rfl
theorem laidOut : laidOutB Try.prog = true := by kernel_rfl

set_option maxRecDepth 100000 in
theorem lifted (os : Os) (started : os.Started) (H : Type) (enc : TypeId × Value → H) :
    ReturnsInHanded {} Try.checked os 4 .any (Rows.fnNextSpec.pre6 enc Try.prog Try.f4 Rows.fnNextRow.domain false) (Rows.fnNextSpec.post enc Try.prog Try.f4 false true false false) := by
  refine returnsInHanded_of_change (C := Try.checked) own started (by kernel_rfl) Try.func4
    (ChangeSpec.witness6 (enc := enc) (C := Try.checked) false ⟨#[], #[.slice none 0 0], []⟩ 8 (by kernel_rfl) (by kernel_rfl) (by kernel_rfl) (by kernel_rfl)) ?_
  intro W base args ds gs before hval0 hW hcnd _
  have hval : ∀ (j : Nat) t v, Try.f4.params[j]? = some t → args[j]? = some v → Value.okWide Try.prog W .any base t v := hval0
  have hW' := hW
  obtain ⟨p, q, hA0, hV, rfl, hfz, hnd⟩ := hW
  have hA : DataW.TrodAll enc Try.prog W 0 (fun _ => true) true Try.f4.params.toList args.toList ds p := hA0
  rw [Try.params4] at hA hval
  obtain ⟨v0, vs0, d0, ds0, p0, q0, hargs, rfl, rfl, h0, r0⟩ := trodAll_cons hA
  obtain ⟨rfl, rfl, rfl⟩ := trodAll_nil r0
  obtain rfl : args = #[v0] := by cases args; simp_all
  obtain ⟨rfl, rfl⟩ := trodVars_none hV
  have k0 := h0
  have lt0 : ∀ x ∈ p0, x.block < W.heap.size := by obtain ⟨m, hm⟩ := k0; exact DataW.trod_lt m _ _ _ hm
  obtain ⟨a0, len0, cap0, rfl⟩ := okWide_slice Try.underlying22 (hval 0 22 v0 rfl rfl)
  obtain ⟨n0, X0, s0, b0⟩ := open_bytes h0
  clear hA0 hval0
  refine (walk (w := W) a0 len0 cap0 X0 n0 s0 b0).mono fun e W' ⟨he, bel⟩ => ?_
  subst he
  exact ⟨_, rfl, _, _, _, [], _, [], hW', trodAll_mk1 (shut_bool Try.underlying4 _), (trodAll_cons_mk (Below.trod laidOut (by kernel_rfl) (of_decide_eq_true (by kernel_rfl)) k0 bel lt0) trodAll_mk0), rfl, bel.frame _, fun h => by cases h⟩

set_option maxHeartbeats 40000000 in
theorem closed : joinedFacts Try.pinned.checked.prog 4 Try.f4 Rows.fnNextSpec Rows.fnNextRow = true := by
  unfold joinedFacts
  repeat' (first | (with_reducible refine both ?_ ?_) | (with_reducible exact may_enter') | (with_reducible refine lifts_eq ?_) | (with_reducible refine make_eq ?_) | as_aux_lemma => kernel_rfl)
theorem named : Try.pinned.checked.prog.funcNamed Rows.fnNextRow.func = some 4 := by kernel_rfl
theorem over : Rows.fnNextRow.holds Try.pinned (OpenSpec.ofChange Rows.fnNextSpec) :=
  OpenClaim.holds_of_wide 4 Try.f4 rfl rfl rfl rfl rfl rfl rfl ⟨rfl, rfl, rfl, rfl, rfl⟩ rfl rfl rfl rfl rfl named Try.func4 closed
    (of_decide_eq_true (by as_aux_lemma => kernel_rfl)) (by unfold Func.isWrapper; first | (rw [if_pos (by decide +kernel)]; kernel_rfl) | (rw [if_neg (by decide +kernel)]; exact ⟨rfl, rfl⟩))
    (fun os started H enc _ => lifted os started H enc)

end Go.Proofs.Ytbklhmeaoigneaa.fNext
namespace Go.Proofs.Ytbklhmeaoigneaa
theorem fNext_holds : Rows.FnNextSaid := fNext.over
#print axioms fNext_holds
end Go.Proofs.Ytbklhmeaoigneaa
