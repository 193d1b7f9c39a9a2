/- The contract of the specification's IsTwoPhase. -/
import Derived.Test.YthbpjmnlgfahmaaTpI
namespace Go.Proofs.Ythbpjmnlgfahmaa
open Go.RowKit
set_option linter.unusedVariables false

theorem inR_zero (l : Int) : inR l 0 0 = !(l != 0) := by
  rw [Bool.eq_iff_iff, inR_iff]; simp; omega
theorem bne_no {x y : Int} (h : (x != y) = false) : (x == y) = true := by
  have : x = y := by simpa using h
  simp [this]
theorem bne_yes {x y : Int} (h : (x != y) = true) : (x == y) = false := by
  have : x ≠ y := by simpa using h
  simp [this]
set_option maxRecDepth 100000 in
set_option maxHeartbeats 16000000 in
theorem specIsTwoPhase_any (a : Option Addr) (n cap : Nat) (K T : Nat → Int) (S : Nat → ByteArray) (a' : Option Addr) (n' cap' : Nat) (L : Nat → Int) (w : World) (hn : n ≤ 1048576) (hn' : n' ≤ 1048576) (hcap : n ≤ cap) (hS : ∀ i, i < n → (S i).size ≤ maxLen) (hs : Sl w a n 3 (opF K T S)) (hl : Sl w a' n' 1 (intF L)) :
    Calls Try.prog 24 #[.slice a n cap, .slice a' n' cap'] w (TwPost K T S L n n' w) := by
  have HS : Hid (Sl w a n 3 (opF K T S) ∧ Sl w a' n' 1 (intF L) ∧ ∀ i, i < n → (S i).size ≤ maxLen) := ⟨hs, hl, hS⟩
  clear hs hl hS
  go_enter Try.func24, Try.ntmps24
  go_wp2_with fail
  refine (specGoodOps_any _ _ _ K T S _ hn hcap HS.out.2.2 HS.out.1).mono ?_
  rintro r w1 ⟨rfl, hb1⟩
  have HB1 : Hid (Below w.heap.size w w1) := hb1
  clear hb1
  cases hg : goodO (okO K T S) K T n
  · have HN : Hid (twOk K T S L n n' = false) := by show _ = _; simp [twOk, hg]
    go_wp2
    exact bodyPost_ret (v := .tuple #[.bool false, .bool false]) (by simp [results, Try.results24, go_sem]) rfl (tw_no HN.out HB1.out)
  have HGP : Hid (goodP (okO K T S) K T n ∧ goodO (okO K T S) K T n = true) := ⟨goodO_out hg, hg⟩
  clear hg
  by_cases hnn : n' = n
  case neg =>
    have hne : ¬ (n' : Int) = (n : Int) := by omega
    have HN : Hid (twOk K T S L n n' = false) := by show _ = _; simp [twOk, lkO_len hnn]
    clear hnn
    go_wp2
    exact bodyPost_ret (v := .tuple #[.bool false, .bool false]) (by simp [results, Try.results24, go_sem]) rfl (tw_no HN.out HB1.out)
  subst hnn
  go_wp2
  go_loopw [32] (fun x wr => ∃ k : Nat, k ≤ n' ∧ x = .int .i64 k ∧ (∀ i, i < k → lkB K L n' i = true) ∧ Below w.heap.size w wr) (fun x _ => n' - (intOf x).toNat)
  case atStart => exact ⟨0, Nat.zero_le _, rfl, fun i hi => absurd hi (by omega), HB1.out⟩
  case round =>
    obtain ⟨k, hk, rfl, hall, hBr⟩ := hrel
    clear HB1
    by_cases hlt : k < n'
    · rcases HS.out.1.below hBr (Nat.le_refl _) with h | ⟨b, off, rfl, hbs, hE⟩
      · omega
      rcases HS.out.2.1.below hBr (Nat.le_refl _) with h | ⟨b', off', rfl, hbs', hE'⟩
      · omega
      have hlt' : (k : Int) < (n' : Int) := by omega
      obtain ⟨c0, c1, c2⟩ := op_cells hE hlt
      have d0 := int_cell hE' hlt
      have hz : w.heap.size ≤ wr.heap.size := hBr.size
      have HH : Hid ((∀ i, i < k → lkB K L n' i = true) ∧ Below w.heap.size w wr) := ⟨hall, hBr⟩
      clear hall hBr hE hE'
      cases h3 : (K k == 3)
      · have h3' : (K k != 3) = true := by simp only [bne, h3, Bool.not_false]
        have HK : Hid (lkB K L n' k = inR (L k) (k : Int) ((n' : Int) - 1)) := by show _ = _; rw [lkB, if_neg (by simpa using h3)]
        cases hr : inR (L k) (k : Int) ((n' : Int) - 1)
        · have HX : Hid (lkB K L n' k = false) := HK.out.trans hr
          have HN : Hid (twOk K T S L n' n' = false) := by show _ = _; simp [twOk, lkO_no hlt HX.out]
          go_wp2_with (go_at_call 63; refine (l1In_any _ _ _ _).mono ?_; rintro e w' ⟨rfl, rfl⟩)
          exact bodyPost_ret (v := .tuple #[.bool false, .bool false]) (by simp [results, Try.results24, go_sem]) rfl (tw_no HN.out (HH.out.2.alloc hz _))
        · have HX : Hid (lkB K L n' k = true) := HK.out.trans hr
          go_wp2_with (go_at_call 63; refine (l1In_any _ _ _ _).mono ?_; rintro e w' ⟨rfl, rfl⟩)
          go_roundw
          case rel => exact ⟨k + 1, by omega, by go_num, fun i hi => (Nat.lt_succ_iff_lt_or_eq.1 hi).elim (HH.out.1 i) (fun e => e ▸ HX.out), HH.out.2.alloc hz _⟩
          case measure => simp [intOf]; omega
      · have h3' : (K k != 3) = false := by simp only [bne, h3, Bool.not_true]
        have HK : Hid (lkB K L n' k = !(L k != 0)) := by show _ = _; rw [lkB, if_pos (by simpa using h3), inR_zero]
        cases hr : (L k != 0)
        · have HX : Hid (lkB K L n' k = true) := by show _ = _; rw [HK.out, hr]; rfl
          go_wp2_with (go_at_call 63; refine (l1In_any _ _ _ _).mono ?_; rintro e w' ⟨rfl, rfl⟩)
          go_roundw
          case rel => exact ⟨k + 1, by omega, by go_num, fun i hi => (Nat.lt_succ_iff_lt_or_eq.1 hi).elim (HH.out.1 i) (fun e => e ▸ HX.out), HH.out.2.alloc hz _⟩
          case measure => simp [intOf]; omega
        · have HX : Hid (lkB K L n' k = false) := by show _ = _; rw [HK.out, hr]; rfl
          have HN : Hid (twOk K T S L n' n' = false) := by show _ = _; simp [twOk, lkO_no hlt HX.out]
          go_wp2_with (go_at_call 63; refine (l1In_any _ _ _ _).mono ?_; rintro e w' ⟨rfl, rfl⟩)
          exact bodyPost_ret (v := .tuple #[.bool false, .bool false]) (by simp [results, Try.results24, go_sem]) rfl (tw_no HN.out (HH.out.2.alloc hz _))
    · have hkn : k = n' := by omega
      have HK : Hid (lkP K L n' n' ∧ twOk K T S L n' n' = true) := by
        have hp : lkP K L n' n' := ⟨rfl, fun i hi => hall i (by omega)⟩
        exact ⟨hp, by simp [twOk, lkO_yes hp, HGP.out.2]⟩
      have HB2 : Hid (Below w.heap.size w wr) := hBr
      subst hkn
      clear hall hBr
      obtain ⟨w2, hw2⟩ : ∃ x, x = wr := ⟨wr, rfl⟩
      subst hw2
      go_wp2
      go_loopw [67] (fun x wr => ∃ q : Nat, q ≤ k ∧ x = .int .i64 q ∧ (∀ i j, i < q → j < k → (S i).toList.isEmpty = false → (S j).toList.isEmpty = false → bdS i (hoOf K T S L k i) (hoOf K T S L k j) = false) ∧ Below w.heap.size w wr) (fun x _ => k - (intOf x).toNat)
      case atStart => exact ⟨0, Nat.zero_le _, rfl, fun i j hi => absurd hi (by omega), HB2.out⟩
      case round =>
        obtain ⟨q, hq, rfl, hno, hBr⟩ := hrel
        clear HB2
        obtain ⟨wo, hwo⟩ : ∃ x, x = wr := ⟨wr, rfl⟩
        subst hwo
        by_cases hlt : q < k
        · rcases HS.out.1.below hBr (Nat.le_refl _) with h | ⟨b, off, rfl, hbs, hE⟩
          · omega
          have hlt' : (q : Int) < (k : Int) := by omega
          obtain ⟨c0, c1, c2⟩ := op_cells hE hlt
          have hz : w.heap.size ≤ wo.heap.size := hBr.size
          have HH : Hid ((∀ i j, i < q → j < k → (S i).toList.isEmpty = false → (S j).toList.isEmpty = false → bdS i (hoOf K T S L k i) (hoOf K T S L k j) = false) ∧ Below w.heap.size w wo) := ⟨hno, hBr⟩
          clear hno hBr hE
          cases hy : (S q).toList.isEmpty
          case true =>
            have HY : Hid ((S q).toList.isEmpty = true) := hy
            go_wp2
            go_roundw
            case rel => exact ⟨q + 1, by omega, by go_num, fun i j hi hj h1 h2 => (Nat.lt_succ_iff_lt_or_eq.1 hi).elim (fun h => HH.out.1 i j h hj h1 h2) (fun e => by subst e; rw [HY.out] at h1; cases h1), HH.out.2.alloc hz _⟩
            case measure => simp [intOf]; omega
          have HY : Hid ((S q).toList.isEmpty = false) := hy
          obtain ⟨f, z, bw, hh⟩ : ∃ f z b, hoN K T S L (T q) (S q) k = (f, z, b) := ⟨_, _, _, rfl⟩
          have Hh : Hid (hoN K T S L (T q) (S q) k = (f, z, bw)) := hh
          have HC : Hid (∀ (t : Int) (s : ByteArray) (h : Int × Int × Bool) (W : World), hoN K T S L t s k = h → Below w.heap.size w W → Calls Try.prog 72 #[.slice (some ⟨b, off, none⟩) k cap, .slice a' k cap', .int .i64 t, .string s] W (HoldPost h W)) := by
            rintro t s h W rfl hb
            exact l3Hold_any _ _ _ K T S _ _ L t s W hn (HS.out.1.kept hb) (HS.out.2.1.kept hb)
          clear hh
          go_wp2_with fail
          refine (HC.out _ _ (f, z, bw) _ Hh.out (HH.out.2.alloc hz _)).mono ?_
          rintro r w3 ⟨⟨x9, rfl⟩, hb3⟩
          have HB3 : Hid (Below wo.heap.size wo w3 ∧ Op1 w3 wo.heap.size (K q) (T q) (S q)) := ⟨below_next (Go.Joins.below_alloc1 _ _) hb3, (Op1.new wo (K q) (T q) (S q) _).next hb3⟩
          clear hb3 c0 c1 c2 hy
          dsimp only
          go_wp2
          go_loopw [89] (fun x wr => ∃ m : Nat, m ≤ k ∧ x = .int .i64 m ∧ (∀ j, j < m → (S j).toList.isEmpty = false → bdS q (hoOf K T S L k q) (hoOf K T S L k j) = false) ∧ Op1 wr wo.heap.size (K q) (T q) (S q) ∧ Below wo.heap.size wo wr) (fun x _ => k - (intOf x).toNat)
          case atStart => exact ⟨0, Nat.zero_le _, rfl, fun j hj => absurd hj (by omega), HB3.out.2, HB3.out.1⟩
          case round =>
            obtain ⟨m, hm, rfl, hno, hev, hBi⟩ := hrel
            clear HB3
            have hzi : wo.heap.size ≤ wr.heap.size := hBi.size
            by_cases hml : m < k
            · have hml' : (m : Int) < (k : Int) := by omega
              have hBw := below_next HH.out.2 hBi
              rcases HS.out.1.below hBw (Nat.le_refl _) with h | ⟨b2, off2, eb, hbs2, hE⟩
              · omega
              cases eb
              obtain ⟨c0, c1, c2⟩ := op_cells hE hml
              have HM : Hid ((∀ j, j < m → (S j).toList.isEmpty = false → bdS q (hoOf K T S L k q) (hoOf K T S L k j) = false) ∧ Op1 wr wo.heap.size (K q) (T q) (S q) ∧ Below wo.heap.size wo wr ∧ Below w.heap.size w wr) := ⟨hno, hev, hBi, hBw⟩
              have hzw : w.heap.size ≤ wr.heap.size := hBw.size
              obtain ⟨g0, g1, g2, hgl⟩ := hev
              clear hno hBi hBw hE
              cases hy : (S m).toList.isEmpty
              case true =>
                have HYm : Hid ((S m).toList.isEmpty = true) := hy
                go_wp2
                go_roundw
                case rel => exact ⟨m + 1, by omega, by go_num, fun j hj h1 => (Nat.lt_succ_iff_lt_or_eq.1 hj).elim (fun h => HM.out.1 j h h1) (fun e => by subst e; rw [HYm.out] at h1; cases h1), HM.out.2.1.next (Go.Joins.below_alloc1 _ _), HM.out.2.2.1.alloc hzi _⟩
                case measure => simp [intOf]; omega
              have HYm : Hid ((S m).toList.isEmpty = false) := hy
              obtain ⟨f', z', bw', hh⟩ : ∃ f z b, hoN K T S L (T m) (S m) k = (f, z, b) := ⟨_, _, _, rfl⟩
              have Hh' : Hid (hoN K T S L (T m) (S m) k = (f', z', bw')) := hh
              have HBD : Hid (bdS q (hoOf K T S L k q) (hoOf K T S L k m) = (((T m != T q) && (((S m).toList == (S q).toList) && ((bw || bw') && (decide (f ≤ z') && decide (f' ≤ z))))) || (T m == T q && (f == (q : Int) && decide (z < f'))))) := by
                show bdS q (hoOf K T S L k q) (hoOf K T S L k m) = _
                unfold hoOf
                rw [Hh.out, hh]; rfl
              have HP : Hid (bdS q (hoOf K T S L k q) (hoOf K T S L k m) = true → badP K T S L k) := fun h => ⟨q, m, hlt, hml, HY.out, HYm.out, h⟩
              clear hh
              go_wp2_with fail
              refine (HC.out _ _ (f', z', bw') _ Hh'.out (HM.out.2.2.2.alloc hzw _)).mono ?_
              rintro r w5 ⟨⟨x8, rfl⟩, hb5⟩
              have HB5 : Hid (Below wr.heap.size wr w5) := below_next (Go.Joins.below_alloc1 _ _) hb5
              obtain ⟨m0, m1, m2, ml⟩ := (Op1.new wr (K m) (T m) (S m) 44).next hb5
              have hx5 := HM.out.2.1.next HB5.out
              obtain ⟨n0, n1, n2, nl⟩ := hx5
              have HBw : Hid (Below w.heap.size w w5) := below_next HM.out.2.2.2 HB5.out
              clear hb5 c0 c1 c2 g0 g1 g2 hy
              dsimp only
              cases h1 : (T m != T q)
              · have h1' : (T m == T q) = true := bne_no h1
                cases h2 : (f == (q : Int))
                · skip
                  have HN : Hid (bdS q (hoOf K T S L k q) (hoOf K T S L k m) = false) := by show _ = _; rw [HBD.out]; simp [h1, h2]
                  go_wp2
                  go_roundw
                  case rel => exact ⟨m + 1, by omega, by go_num, fun j hj h1 => (Nat.lt_succ_iff_lt_or_eq.1 hj).elim (fun h => HM.out.1 j h h1) (fun e => by subst e; exact HN.out), HM.out.2.1.next HB5.out, below_next HM.out.2.2.1 HB5.out⟩
                  case measure => simp [intOf]; omega
                · by_cases h3 : z < f'
                  · skip
                    have HN : Hid (bdS q (hoOf K T S L k q) (hoOf K T S L k m) = true) := by show _ = _; rw [HBD.out]; simp [h1', h2, h3]
                    go_wp2
                    exact bodyPost_ret (v := .tuple #[.bool false, .bool true]) (by simp [results, Try.results24, go_sem]) rfl (tw_bad HK.out.2 (HP.out HN.out) HBw.out)
                  · skip
                    have HN : Hid (bdS q (hoOf K T S L k q) (hoOf K T S L k m) = false) := by show _ = _; rw [HBD.out]; simp [h1, show decide (z < f') = false from decide_eq_false h3]
                    go_wp2
                    go_roundw
                    case rel => exact ⟨m + 1, by omega, by go_num, fun j hj h1 => (Nat.lt_succ_iff_lt_or_eq.1 hj).elim (fun h => HM.out.1 j h h1) (fun e => by subst e; exact HN.out), HM.out.2.1.next HB5.out, below_next HM.out.2.2.1 HB5.out⟩
                    case measure => simp [intOf]; omega
              · have h1' : (T m == T q) = false := bne_yes h1
                cases h2 : ((S m).toList == (S q).toList)
                · skip
                  have HN : Hid (bdS q (hoOf K T S L k q) (hoOf K T S L k m) = false) := by show _ = _; rw [HBD.out]; simp [h1', h2]
                  go_wp2
                  go_roundw
                  case rel => exact ⟨m + 1, by omega, by go_num, fun j hj h1 => (Nat.lt_succ_iff_lt_or_eq.1 hj).elim (fun h => HM.out.1 j h h1) (fun e => by subst e; exact HN.out), HM.out.2.1.next HB5.out, below_next HM.out.2.2.1 HB5.out⟩
                  case measure => simp [intOf]; omega
                · cases bw
                  · cases bw'
                    · skip
                      have HN : Hid (bdS q (hoOf K T S L k q) (hoOf K T S L k m) = false) := by show _ = _; rw [HBD.out]; simp [h1']
                      go_wp2
                      go_roundw
                      case rel => exact ⟨m + 1, by omega, by go_num, fun j hj h1 => (Nat.lt_succ_iff_lt_or_eq.1 hj).elim (fun h => HM.out.1 j h h1) (fun e => by subst e; exact HN.out), HM.out.2.1.next HB5.out, below_next HM.out.2.2.1 HB5.out⟩
                      case measure => simp [intOf]; omega
                    · skip
                      by_cases h3 : f ≤ z'
                      · by_cases h4 : f' ≤ z
                        · skip
                          have HN : Hid (bdS q (hoOf K T S L k q) (hoOf K T S L k m) = true) := by show _ = _; rw [HBD.out]; simp [h1, h2, h3, h4]
                          go_wp2
                          exact bodyPost_ret (v := .tuple #[.bool false, .bool true]) (by simp [results, Try.results24, go_sem]) rfl (tw_bad HK.out.2 (HP.out HN.out) HBw.out)
                        · skip
                          have HN : Hid (bdS q (hoOf K T S L k q) (hoOf K T S L k m) = false) := by show _ = _; rw [HBD.out]; simp [h1', show decide (f' ≤ z) = false from decide_eq_false h4]
                          go_wp2
                          go_roundw
                          case rel => exact ⟨m + 1, by omega, by go_num, fun j hj h1 => (Nat.lt_succ_iff_lt_or_eq.1 hj).elim (fun h => HM.out.1 j h h1) (fun e => by subst e; exact HN.out), HM.out.2.1.next HB5.out, below_next HM.out.2.2.1 HB5.out⟩
                          case measure => simp [intOf]; omega
                      · skip
                        have HN : Hid (bdS q (hoOf K T S L k q) (hoOf K T S L k m) = false) := by show _ = _; rw [HBD.out]; simp [h1', show decide (f ≤ z') = false from decide_eq_false h3]
                        go_wp2
                        go_roundw
                        case rel => exact ⟨m + 1, by omega, by go_num, fun j hj h1 => (Nat.lt_succ_iff_lt_or_eq.1 hj).elim (fun h => HM.out.1 j h h1) (fun e => by subst e; exact HN.out), HM.out.2.1.next HB5.out, below_next HM.out.2.2.1 HB5.out⟩
                        case measure => simp [intOf]; omega
                  · skip
                    by_cases h3 : f ≤ z'
                    · by_cases h4 : f' ≤ z
                      · skip
                        have HN : Hid (bdS q (hoOf K T S L k q) (hoOf K T S L k m) = true) := by show _ = _; rw [HBD.out]; simp [h1, h2, h3, h4]
                        go_wp2
                        exact bodyPost_ret (v := .tuple #[.bool false, .bool true]) (by simp [results, Try.results24, go_sem]) rfl (tw_bad HK.out.2 (HP.out HN.out) HBw.out)
                      · skip
                        have HN : Hid (bdS q (hoOf K T S L k q) (hoOf K T S L k m) = false) := by show _ = _; rw [HBD.out]; simp [h1', show decide (f' ≤ z) = false from decide_eq_false h4]
                        go_wp2
                        go_roundw
                        case rel => exact ⟨m + 1, by omega, by go_num, fun j hj h1 => (Nat.lt_succ_iff_lt_or_eq.1 hj).elim (fun h => HM.out.1 j h h1) (fun e => by subst e; exact HN.out), HM.out.2.1.next HB5.out, below_next HM.out.2.2.1 HB5.out⟩
                        case measure => simp [intOf]; omega
                    · skip
                      have HN : Hid (bdS q (hoOf K T S L k q) (hoOf K T S L k m) = false) := by show _ = _; rw [HBD.out]; simp [h1', show decide (f ≤ z') = false from decide_eq_false h3]
                      go_wp2
                      go_roundw
                      case rel => exact ⟨m + 1, by omega, by go_num, fun j hj h1 => (Nat.lt_succ_iff_lt_or_eq.1 hj).elim (fun h => HM.out.1 j h h1) (fun e => by subst e; exact HN.out), HM.out.2.1.next HB5.out, below_next HM.out.2.2.1 HB5.out⟩
                      case measure => simp [intOf]; omega
            · have hmk : m = k := by omega
              subst hmk
              have HM : Hid ((∀ j, j < m → (S j).toList.isEmpty = false → bdS q (hoOf K T S L m q) (hoOf K T S L m j) = false) ∧ Below wo.heap.size wo wr) := ⟨hno, hBi⟩
              clear hno hev hBi
              go_wp2
              go_roundw
              case rel => exact ⟨q + 1, by omega, by go_num, fun i j hi hj h1 h2 => (Nat.lt_succ_iff_lt_or_eq.1 hi).elim (fun h => HH.out.1 i j h hj h1 h2) (fun e => by subst e; exact HM.out.1 j hj h2), below_next HH.out.2 HM.out.2⟩
              case measure => simp [intOf]; omega
        · have hqk : q = k := by omega
          subst hqk
          have HN : Hid (¬ badP K T S L q ∧ Below w.heap.size w wo) := by
            refine ⟨fun h => ?_, hBr⟩
            obtain ⟨i, j, hi, hj, h1, h2, hb⟩ := h
            rw [hno i j hi hj h1 h2] at hb; cases hb
          clear hno hBr
          go_wp2
          exact bodyPost_ret (v := .tuple #[.bool true, .bool true]) (by simp [results, Try.results24, go_sem]) rfl (tw_good HK.out.2 HN.out.1 HN.out.2)
end Go.Proofs.Ythbpjmnlgfahmaa
