/- Tids pack, unpack and compare as the specification says, for drawn tids and drawn words: the law FnTids. -/
import Derived.Test.YtbklhmeaoigneaaDrT
import Derived.Test.YtbklhmeaoigneaaOpenB
import Derived.Test.YtbklhmeaoigneaaWords
import Derived.ProofKit
import Derived.OpenShut
import Derived.ShutString
import Derived.ChangeOld
import Derived.Below
import Derived.Lib.SmallJoins
namespace Go.Proofs.Ytbklhmeaoigneaa.fTids
open Go.ChangeShapes Go.WideShapes Go.ChangeAt Go.RowKit
open Go.ChangeMaps (open_string shut_string)
set_option linter.unusedVariables false
theorem cmp_pack (e s e' s' : Int) (b b' : Bool) (h : goodT e s = true) (h' : goodT e' s' = true) :
    (packW e s b / 2 < packW e' s' b' / 2 ∧ cmpR e s e' s' = -1) ∨ (packW e s b / 2 = packW e' s' b' / 2 ∧ cmpR e s e' s' = 0) ∨ (packW e' s' b' / 2 < packW e s b / 2 ∧ cmpR e s e' s' = 1) := by
  rw [pack_val e s b h, pack_val e' s' b' h']
  have hc : cmpR e s e' s' = cmpT e s e' s' := by simp [cmpR, h, h']
  rw [hc]
  obtain ⟨⟨e0, e1⟩, s0, s1⟩ := (good_iff e s).1 h
  obtain ⟨⟨e0', e1'⟩, s0', s1'⟩ := (good_iff e' s').1 h'
  have hb : (0 : Int) ≤ (if b then 1 else 0) ∧ (if b then 1 else 0 : Int) ≤ 1 := by split <;> omega
  have hb' : (0 : Int) ≤ (if b' then 1 else 0) ∧ (if b' then 1 else 0 : Int) ≤ 1 := by split <;> omega
  generalize (if b then 1 else 0 : Int) = c at *
  generalize (if b' then 1 else 0 : Int) = c' at *
  unfold cmpT cmpI
  repeat' split
  all_goals omega
theorem pack_bd (e s : Int) (b : Bool) (h : goodT e s = true) : 0 ≤ packW e s b ∧ packW e s b < 35184372088832 := by
  rw [pack_val e s b h]
  obtain ⟨⟨e0, e1⟩, s0, s1⟩ := (good_iff e s).1 h
  split <;> omega
theorem un_pack (e s : Int) (b : Bool) (h : goodT e s = true) : packW e s b / 33554432 = e ∧ unS (packW e s b) = s ∧ unL (packW e s b) = b := by
  rw [pack_val e s b h]
  obtain ⟨⟨e0, e1⟩, s0, s1⟩ := (good_iff e s).1 h
  unfold unS unL
  cases b
  · refine ⟨by simp; omega, by simp; omega, ?_⟩
    rw [beq_eq_false_iff_ne]; simp; omega
  · refine ⟨by simp; omega, by simp; omega, ?_⟩
    rw [beq_iff_eq]; simp; omega
theorem pack_un (x : Int) (h0 : 0 ≤ x) (h1 : x < 35184372088832) : goodT (x / 33554432) (unS x) = true ∧ packW (x / 33554432) (unS x) (unL x) = x := by
  have hg : goodT (x / 33554432) (unS x) = true := by rw [good_un x h0]; simpa using h1
  refine ⟨hg, ?_⟩
  rw [pack_val _ _ _ hg]
  unfold unS unL
  cases h : (x % 2 == 1)
  · have : ¬ x % 2 = 1 := by simpa using h
    simp; omega
  · have : x % 2 = 1 := by simpa using h
    simp; omega
set_option maxRecDepth 100000 in
set_option maxHeartbeats 4000000 in
theorem walk (a : Option Addr) (n cap : Nat) (X : Nat → Int) (w : World) (hm : n ≤ maxLen) (hs : Sl w a n 1 (byF X)) (hX : ∀ i, i < n → 0 ≤ X i ∧ X i ≤ 255)
    (a' : Option Addr) (n' cap' : Nat) (Y : Nat → Int) (hm' : n' ≤ maxLen) (hs' : Sl w a' n' 1 (byF Y)) (hY : ∀ i, i < n' → 0 ≤ Y i ∧ Y i ≤ 255) :
    Calls Try.prog 3 #[.slice a n cap, .slice a' n' cap'] w fun r w' => r = .returned (.bool true) ∧ Below w.heap.size w w' := by
  unfold maxLen at hm hm'
  have HS : Hid ((Sl w a n 1 (byF X) ∧ ∀ i, i < n → 0 ≤ X i ∧ X i ≤ 255) ∧ Sl w a' n' 1 (byF Y) ∧ ∀ i, i < n' → 0 ≤ Y i ∧ Y i ≤ 255) := ⟨⟨hs, hX⟩, hs', hY⟩
  clear hs hs' hX hY
  by_cases hlt : (1048576 : Int) < wrap64 ((n : Int) + (n' : Int))
  case pos =>
    go_enter Try.func3, Try.ntmps3
    go_wp2
    go_ret
    exact ⟨rfl, Below.refl _ _⟩
  case neg =>
  go_enter Try.func3, Try.ntmps3
  go_wp2_with fail
  refine (drawCompare_any _ _ _ X _ hm HS.out.1.1 HS.out.1.2).mono ?_
  rintro r w1 ⟨e, s, b, e', s', b', rfl, hb⟩
  have H1 : Hid (Below w.heap.size w w1) := hb
  have hz1 : w.heap.size ≤ w1.heap.size := hb.size
  clear hb
  go_wp2_with fail
  refine (compare_any _ _ _ _ _ _ _).mono ?_
  rintro r w2 ⟨rfl, hb⟩
  have H2 : Hid (T3 w2 w1.heap.size e s b ∧ T3 w2 (w1.heap.size + 1) e' s' b' ∧ Below w.heap.size w w2) := by
    refine ⟨((T3.new _ _ _ _ _).next (Go.Joins.below_alloc1 _ _)).next hb, ?_, ((H1.out.alloc hz1 _).alloc (by simp; omega) _).trans (hb.mono (by simp; omega))⟩
    have := (T3.new (w1.alloc (.cells #[.int .i64 e, .int .i64 s, .bool b] 24)) e' s' b' 24).next hb
    simpa using this
  obtain ⟨c0, c1, c2, _, _, _, cz⟩ := H2.out.1
  obtain ⟨d0, d1, d2, _, _, _, dz⟩ := H2.out.2.1
  clear hb H1
  go_wp2_with fail
  refine (specCompare_any _ _ _ _ _ _ _).mono ?_
  rintro r w3 ⟨rfl, hb⟩
  have H3 : Hid (T3 w3 w1.heap.size e s b ∧ T3 w3 (w1.heap.size + 1) e' s' b' ∧ Below w.heap.size w w3) := ⟨H2.out.1.next hb, H2.out.2.1.next hb, H2.out.2.2.trans (hb.mono H2.out.2.2.size)⟩
  clear hb H2 c0 c1 c2 cz d0 d1 d2 dz
  obtain ⟨c0, c1, c2, _, _, _, cz⟩ := H3.out.1
  obtain ⟨d0, d1, d2, _, _, _, dz⟩ := H3.out.2.1
  have HJ : Hid (goodT e s = goodT e s) := rfl
  cases hg1 : goodT e s
  · cases hg2 : goodT e' s'
    · go_wp2_with fail
      refine (pack_no _ _ _ _ hg1).mono ?_
      rintro r w4 ⟨rfl, hb⟩
      have H4 : Hid (T3 w4 w1.heap.size e s b ∧ T3 w4 (w1.heap.size + 1) e' s' b' ∧ Below w.heap.size w w4) := ⟨H3.out.1.next hb, H3.out.2.1.next hb, H3.out.2.2.trans (hb.mono H3.out.2.2.size)⟩
      clear hb H3 c0 c1 c2 cz d0 d1 d2 dz
      obtain ⟨d0, d1, d2, _, _, _, dz⟩ := H4.out.2.1
      go_wp2_with fail
      refine (pack_no _ _ _ _ hg2).mono ?_
      rintro r w5 ⟨rfl, hb⟩
      have H5 : Hid (Below w.heap.size w w5) := H4.out.2.2.trans (hb.mono H4.out.2.2.size)
      clear hb H4 d0 d1 d2 dz
      go_wp2_with fail
      refine (drawUnpack_any _ _ _ Y _ hm' (HS.out.2.1.below H5.out (Nat.le_refl _)) HS.out.2.2).mono ?_
      rintro r w6 ⟨x, hx, rfl, hb⟩
      have H6 : Hid (Below w.heap.size w w6) := H5.out.trans (hb.mono H5.out.size)
      clear hb H5
      by_cases hx2 : x < 35184372088832
      · go_wp2_with fail
        refine (unpack_yes x _ hx.1 hx.2 hx2).mono ?_
        rintro r w7 ⟨rfl, hb⟩
        have H7 : Hid (Below w.heap.size w w7) := H6.out.trans (hb.mono H6.out.size)
        clear hb H6
        have HU : Hid (goodT (x / 33554432) (unS x) = true ∧ packW (x / 33554432) (unS x) (unL x) = x) := pack_un x hx.1 hx2
        obtain ⟨xe, hxe⟩ : ∃ z, z = x / 33554432 := ⟨_, rfl⟩
        obtain ⟨xs, hxs⟩ : ∃ z, z = unS x := ⟨_, rfl⟩
        obtain ⟨xl, hxl⟩ : ∃ z, z = unL x := ⟨_, rfl⟩
        have HE : Hid (xe = x / 33554432 ∧ xs = unS x ∧ xl = unL x) := ⟨hxe, hxs, hxl⟩
        rw [← hxe, ← hxs, ← hxl] at HU
        rw [← hxe, ← hxs, ← hxl]
        clear hxe hxs hxl
        go_wp2_with fail
        refine (specUnpack_yes x _ hx.1 hx.2 hx2).mono ?_
        rintro r w8 ⟨rfl, hb⟩
        rw [← HE.out.1, ← HE.out.2.1, ← HE.out.2.2]
        obtain ⟨g0, g1, g2, _, _, _, gz⟩ := (T3.new w7 xe xs xl 24).next hb
        have H8 : Hid (Below w.heap.size w w8) := (H7.out.alloc H7.out.size _).trans (hb.mono (by have := H7.out.size; simp; omega))
        have hz8 : w7.heap.size < w8.heap.size := gz
        have hzw : w.heap.size ≤ w8.heap.size := H8.out.size
        clear hb H7
        go_wp2_with fail
        refine (pack_yes xe xs xl _ HU.out.1).mono ?_
        rintro r w9 ⟨rfl, hb⟩
        have H9 : Hid (Below w.heap.size w w9) := (H8.out.alloc hzw _).trans (hb.mono (by simp; omega))
        clear hb
        rw [HU.out.2]
        go_wp2
        go_ret
        exact ⟨rfl, H9.out⟩
      · go_wp2_with fail
        refine (unpack_no x _ hx.1 hx.2 (by omega)).mono ?_
        rintro r w7 ⟨rfl, hb⟩
        have H7 : Hid (Below w.heap.size w w7) := H6.out.trans (hb.mono H6.out.size)
        clear hb H6
        go_wp2_with fail
        refine (specUnpack_no x _ hx.1 hx.2 (by omega)).mono ?_
        rintro r w8 ⟨rfl, hb⟩
        obtain ⟨g0, g1, g2, _, _, _, gz⟩ := (T3.new w7 0 0 false 24).next hb
        have H8 : Hid (Below w.heap.size w w8) := (H7.out.alloc H7.out.size _).trans (hb.mono (by have := H7.out.size; simp; omega))
        have hz8 : w7.heap.size < w8.heap.size := gz
        have hzw : w.heap.size ≤ w8.heap.size := H8.out.size
        clear hb H7
        go_wp2
        go_ret
        exact ⟨rfl, H8.out.alloc hzw _⟩
    · go_wp2_with fail
      refine (pack_no _ _ _ _ hg1).mono ?_
      rintro r w4 ⟨rfl, hb⟩
      have H4 : Hid (T3 w4 w1.heap.size e s b ∧ T3 w4 (w1.heap.size + 1) e' s' b' ∧ Below w.heap.size w w4) := ⟨H3.out.1.next hb, H3.out.2.1.next hb, H3.out.2.2.trans (hb.mono H3.out.2.2.size)⟩
      clear hb H3 c0 c1 c2 cz d0 d1 d2 dz
      obtain ⟨d0, d1, d2, _, _, _, dz⟩ := H4.out.2.1
      go_wp2_with fail
      refine (pack_yes _ _ _ _ hg2).mono ?_
      rintro r w5 ⟨rfl, hb⟩
      have H5 : Hid (Below w.heap.size w w5) := H4.out.2.2.trans (hb.mono H4.out.2.2.size)
      clear hb H4 d0 d1 d2 dz
      go_wp2_with fail
      refine (drawUnpack_any _ _ _ Y _ hm' (HS.out.2.1.below H5.out (Nat.le_refl _)) HS.out.2.2).mono ?_
      rintro r w6 ⟨x, hx, rfl, hb⟩
      have H6 : Hid (Below w.heap.size w w6) := H5.out.trans (hb.mono H5.out.size)
      clear hb H5
      by_cases hx2 : x < 35184372088832
      · go_wp2_with fail
        refine (unpack_yes x _ hx.1 hx.2 hx2).mono ?_
        rintro r w7 ⟨rfl, hb⟩
        have H7 : Hid (Below w.heap.size w w7) := H6.out.trans (hb.mono H6.out.size)
        clear hb H6
        have HU : Hid (goodT (x / 33554432) (unS x) = true ∧ packW (x / 33554432) (unS x) (unL x) = x) := pack_un x hx.1 hx2
        obtain ⟨xe, hxe⟩ : ∃ z, z = x / 33554432 := ⟨_, rfl⟩
        obtain ⟨xs, hxs⟩ : ∃ z, z = unS x := ⟨_, rfl⟩
        obtain ⟨xl, hxl⟩ : ∃ z, z = unL x := ⟨_, rfl⟩
        have HE : Hid (xe = x / 33554432 ∧ xs = unS x ∧ xl = unL x) := ⟨hxe, hxs, hxl⟩
        rw [← hxe, ← hxs, ← hxl] at HU
        rw [← hxe, ← hxs, ← hxl]
        clear hxe hxs hxl
        go_wp2_with fail
        refine (specUnpack_yes x _ hx.1 hx.2 hx2).mono ?_
        rintro r w8 ⟨rfl, hb⟩
        rw [← HE.out.1, ← HE.out.2.1, ← HE.out.2.2]
        obtain ⟨g0, g1, g2, _, _, _, gz⟩ := (T3.new w7 xe xs xl 24).next hb
        have H8 : Hid (Below w.heap.size w w8) := (H7.out.alloc H7.out.size _).trans (hb.mono (by have := H7.out.size; simp; omega))
        have hz8 : w7.heap.size < w8.heap.size := gz
        have hzw : w.heap.size ≤ w8.heap.size := H8.out.size
        clear hb H7
        go_wp2_with fail
        refine (pack_yes xe xs xl _ HU.out.1).mono ?_
        rintro r w9 ⟨rfl, hb⟩
        have H9 : Hid (Below w.heap.size w w9) := (H8.out.alloc hzw _).trans (hb.mono (by simp; omega))
        clear hb
        rw [HU.out.2]
        go_wp2
        go_ret
        exact ⟨rfl, H9.out⟩
      · go_wp2_with fail
        refine (unpack_no x _ hx.1 hx.2 (by omega)).mono ?_
        rintro r w7 ⟨rfl, hb⟩
        have H7 : Hid (Below w.heap.size w w7) := H6.out.trans (hb.mono H6.out.size)
        clear hb H6
        go_wp2_with fail
        refine (specUnpack_no x _ hx.1 hx.2 (by omega)).mono ?_
        rintro r w8 ⟨rfl, hb⟩
        obtain ⟨g0, g1, g2, _, _, _, gz⟩ := (T3.new w7 0 0 false 24).next hb
        have H8 : Hid (Below w.heap.size w w8) := (H7.out.alloc H7.out.size _).trans (hb.mono (by have := H7.out.size; simp; omega))
        have hz8 : w7.heap.size < w8.heap.size := gz
        have hzw : w.heap.size ≤ w8.heap.size := H8.out.size
        clear hb H7
        go_wp2
        go_ret
        exact ⟨rfl, H8.out.alloc hzw _⟩
  · cases hg2 : goodT e' s'
    · go_wp2_with fail
      refine (pack_yes _ _ _ _ hg1).mono ?_
      rintro r w4 ⟨rfl, hb⟩
      have H4 : Hid (T3 w4 w1.heap.size e s b ∧ T3 w4 (w1.heap.size + 1) e' s' b' ∧ Below w.heap.size w w4) := ⟨H3.out.1.next hb, H3.out.2.1.next hb, H3.out.2.2.trans (hb.mono H3.out.2.2.size)⟩
      clear hb H3 c0 c1 c2 cz d0 d1 d2 dz
      obtain ⟨d0, d1, d2, _, _, _, dz⟩ := H4.out.2.1
      go_wp2_with fail
      refine (pack_no _ _ _ _ hg2).mono ?_
      rintro r w5 ⟨rfl, hb⟩
      have H5 : Hid (Below w.heap.size w w5) := H4.out.2.2.trans (hb.mono H4.out.2.2.size)
      have HX1 : Hid (0 ≤ packW e s b ∧ packW e s b < 35184372088832) := pack_bd e s b hg1
      have HX2 : Hid (packW e s b / 33554432 = e ∧ unS (packW e s b) = s ∧ unL (packW e s b) = b) := un_pack e s b hg1
      have H5a : Hid (T3 w5 w1.heap.size e s b) := H4.out.1.next hb
      clear hb H4 d0 d1 d2 dz
      obtain ⟨v, hv⟩ : ∃ v, v = packW e s b := ⟨_, rfl⟩
      rw [← hv] at HX1 HX2
      rw [← hv]
      clear hv
      obtain ⟨c0, c1, c2, _, _, _, cz⟩ := H5a.out
      have hv1 := HX1.out.1
      go_wp2_with fail
      refine (unpack_yes v _ HX1.out.1 (by have := HX1.out.2; omega) HX1.out.2).mono ?_
      rintro r w5' ⟨rfl, hb⟩
      rw [HX2.out.1, HX2.out.2.1, HX2.out.2.2]
      have H5b : Hid (Below w.heap.size w w5') := H5.out.trans (hb.mono H5.out.size)
      obtain ⟨c0, c1, c2, _, _, _, cz⟩ := H5a.out.next hb
      obtain ⟨W5, hW5⟩ : ∃ z, z = w5'.alloc (.cells #[.int .i64 e, .int .i64 s, .bool b] 24) := ⟨_, rfl⟩
      have H5c : Hid (Below w.heap.size w W5) := by rw [hW5]; exact H5b.out.alloc H5b.out.size _
      have hz5 : w.heap.size ≤ w5'.heap.size := H5b.out.size
      clear hb H5
      have H5 : Hid (Below w.heap.size w W5) := H5c
      clear H5c H5b H5a
      rw [hW5] at H5
      clear hW5
      go_wp2_with fail
      refine (drawUnpack_any _ _ _ Y _ hm' (HS.out.2.1.below H5.out (Nat.le_refl _)) HS.out.2.2).mono ?_
      rintro r w6 ⟨x, hx, rfl, hb⟩
      have H6 : Hid (Below w.heap.size w w6) := H5.out.trans (hb.mono H5.out.size)
      clear hb H5
      by_cases hx2 : x < 35184372088832
      · go_wp2_with fail
        refine (unpack_yes x _ hx.1 hx.2 hx2).mono ?_
        rintro r w7 ⟨rfl, hb⟩
        have H7 : Hid (Below w.heap.size w w7) := H6.out.trans (hb.mono H6.out.size)
        clear hb H6
        have HU : Hid (goodT (x / 33554432) (unS x) = true ∧ packW (x / 33554432) (unS x) (unL x) = x) := pack_un x hx.1 hx2
        obtain ⟨xe, hxe⟩ : ∃ z, z = x / 33554432 := ⟨_, rfl⟩
        obtain ⟨xs, hxs⟩ : ∃ z, z = unS x := ⟨_, rfl⟩
        obtain ⟨xl, hxl⟩ : ∃ z, z = unL x := ⟨_, rfl⟩
        have HE : Hid (xe = x / 33554432 ∧ xs = unS x ∧ xl = unL x) := ⟨hxe, hxs, hxl⟩
        rw [← hxe, ← hxs, ← hxl] at HU
        rw [← hxe, ← hxs, ← hxl]
        clear hxe hxs hxl
        go_wp2_with fail
        refine (specUnpack_yes x _ hx.1 hx.2 hx2).mono ?_
        rintro r w8 ⟨rfl, hb⟩
        rw [← HE.out.1, ← HE.out.2.1, ← HE.out.2.2]
        obtain ⟨g0, g1, g2, _, _, _, gz⟩ := (T3.new w7 xe xs xl 24).next hb
        have H8 : Hid (Below w.heap.size w w8) := (H7.out.alloc H7.out.size _).trans (hb.mono (by have := H7.out.size; simp; omega))
        have hz8 : w7.heap.size < w8.heap.size := gz
        have hzw : w.heap.size ≤ w8.heap.size := H8.out.size
        clear hb H7
        go_wp2_with fail
        refine (pack_yes xe xs xl _ HU.out.1).mono ?_
        rintro r w9 ⟨rfl, hb⟩
        have H9 : Hid (Below w.heap.size w w9) := (H8.out.alloc hzw _).trans (hb.mono (by simp; omega))
        clear hb
        rw [HU.out.2]
        go_wp2
        go_ret
        exact ⟨rfl, H9.out⟩
      · go_wp2_with fail
        refine (unpack_no x _ hx.1 hx.2 (by omega)).mono ?_
        rintro r w7 ⟨rfl, hb⟩
        have H7 : Hid (Below w.heap.size w w7) := H6.out.trans (hb.mono H6.out.size)
        clear hb H6
        go_wp2_with fail
        refine (specUnpack_no x _ hx.1 hx.2 (by omega)).mono ?_
        rintro r w8 ⟨rfl, hb⟩
        obtain ⟨g0, g1, g2, _, _, _, gz⟩ := (T3.new w7 0 0 false 24).next hb
        have H8 : Hid (Below w.heap.size w w8) := (H7.out.alloc H7.out.size _).trans (hb.mono (by have := H7.out.size; simp; omega))
        have hz8 : w7.heap.size < w8.heap.size := gz
        have hzw : w.heap.size ≤ w8.heap.size := H8.out.size
        clear hb H7
        go_wp2
        go_ret
        exact ⟨rfl, H8.out.alloc hzw _⟩
    · go_wp2_with fail
      refine (pack_yes _ _ _ _ hg1).mono ?_
      rintro r w4 ⟨rfl, hb⟩
      have H4 : Hid (T3 w4 w1.heap.size e s b ∧ T3 w4 (w1.heap.size + 1) e' s' b' ∧ Below w.heap.size w w4) := ⟨H3.out.1.next hb, H3.out.2.1.next hb, H3.out.2.2.trans (hb.mono H3.out.2.2.size)⟩
      clear hb H3 c0 c1 c2 cz d0 d1 d2 dz
      obtain ⟨d0, d1, d2, _, _, _, dz⟩ := H4.out.2.1
      go_wp2_with fail
      refine (pack_yes _ _ _ _ hg2).mono ?_
      rintro r w5 ⟨rfl, hb⟩
      have H5 : Hid (Below w.heap.size w w5) := H4.out.2.2.trans (hb.mono H4.out.2.2.size)
      have HX1 : Hid (0 ≤ packW e s b ∧ packW e s b < 35184372088832) := pack_bd e s b hg1
      have HX2 : Hid (packW e s b / 33554432 = e ∧ unS (packW e s b) = s ∧ unL (packW e s b) = b) := un_pack e s b hg1
      have H5a : Hid (T3 w5 w1.heap.size e s b) := H4.out.1.next hb
      clear hb H4 d0 d1 d2 dz
      have HO : Hid ((packW e s b / 2 < packW e' s' b' / 2 ∧ cmpR e s e' s' = -1) ∨ (packW e s b / 2 = packW e' s' b' / 2 ∧ cmpR e s e' s' = 0) ∨ (packW e' s' b' / 2 < packW e s b / 2 ∧ cmpR e s e' s' = 1)) := cmp_pack e s e' s' b b' hg1 hg2
      generalize cmpR e s e' s' = z at *
      generalize packW e' s' b' = y at *
      obtain ⟨v, hv⟩ : ∃ v, v = packW e s b := ⟨_, rfl⟩
      rw [← hv] at HX1 HX2 HO
      rw [← hv]
      clear hv
      obtain ⟨c0, c1, c2, _, _, _, cz⟩ := H5a.out
      have hv1 := HX1.out.1
      rcases HO.out with ⟨ho, hz⟩ | ⟨ho, hz⟩ | ⟨ho, hz⟩
      · have hoN : v / 2 < y / 2 := by omega
        have hoM : ¬ v / 2 = y / 2 := by omega
        subst hz
        clear HO ho
        go_wp2_with fail
        refine (unpack_yes v _ HX1.out.1 (by have := HX1.out.2; omega) HX1.out.2).mono ?_
        rintro r w5' ⟨rfl, hb⟩
        rw [HX2.out.1, HX2.out.2.1, HX2.out.2.2]
        have H5b : Hid (Below w.heap.size w w5') := H5.out.trans (hb.mono H5.out.size)
        obtain ⟨c0, c1, c2, _, _, _, cz⟩ := H5a.out.next hb
        obtain ⟨W5, hW5⟩ : ∃ z, z = w5'.alloc (.cells #[.int .i64 e, .int .i64 s, .bool b] 24) := ⟨_, rfl⟩
        have H5c : Hid (Below w.heap.size w W5) := by rw [hW5]; exact H5b.out.alloc H5b.out.size _
        have hz5 : w.heap.size ≤ w5'.heap.size := H5b.out.size
        clear hb H5
        have H5 : Hid (Below w.heap.size w W5) := H5c
        clear H5c H5b H5a
        rw [hW5] at H5
        clear hW5
        go_wp2_with fail
        refine (drawUnpack_any _ _ _ Y _ hm' (HS.out.2.1.below H5.out (Nat.le_refl _)) HS.out.2.2).mono ?_
        rintro r w6 ⟨x, hx, rfl, hb⟩
        have H6 : Hid (Below w.heap.size w w6) := H5.out.trans (hb.mono H5.out.size)
        clear hb H5
        by_cases hx2 : x < 35184372088832
        · go_wp2_with fail
          refine (unpack_yes x _ hx.1 hx.2 hx2).mono ?_
          rintro r w7 ⟨rfl, hb⟩
          have H7 : Hid (Below w.heap.size w w7) := H6.out.trans (hb.mono H6.out.size)
          clear hb H6
          have HU : Hid (goodT (x / 33554432) (unS x) = true ∧ packW (x / 33554432) (unS x) (unL x) = x) := pack_un x hx.1 hx2
          obtain ⟨xe, hxe⟩ : ∃ z, z = x / 33554432 := ⟨_, rfl⟩
          obtain ⟨xs, hxs⟩ : ∃ z, z = unS x := ⟨_, rfl⟩
          obtain ⟨xl, hxl⟩ : ∃ z, z = unL x := ⟨_, rfl⟩
          have HE : Hid (xe = x / 33554432 ∧ xs = unS x ∧ xl = unL x) := ⟨hxe, hxs, hxl⟩
          rw [← hxe, ← hxs, ← hxl] at HU
          rw [← hxe, ← hxs, ← hxl]
          clear hxe hxs hxl
          go_wp2_with fail
          refine (specUnpack_yes x _ hx.1 hx.2 hx2).mono ?_
          rintro r w8 ⟨rfl, hb⟩
          rw [← HE.out.1, ← HE.out.2.1, ← HE.out.2.2]
          obtain ⟨g0, g1, g2, _, _, _, gz⟩ := (T3.new w7 xe xs xl 24).next hb
          have H8 : Hid (Below w.heap.size w w8) := (H7.out.alloc H7.out.size _).trans (hb.mono (by have := H7.out.size; simp; omega))
          have hz8 : w7.heap.size < w8.heap.size := gz
          have hzw : w.heap.size ≤ w8.heap.size := H8.out.size
          clear hb H7
          go_wp2_with fail
          refine (pack_yes xe xs xl _ HU.out.1).mono ?_
          rintro r w9 ⟨rfl, hb⟩
          have H9 : Hid (Below w.heap.size w w9) := (H8.out.alloc hzw _).trans (hb.mono (by simp; omega))
          clear hb
          rw [HU.out.2]
          go_wp2
          go_ret
          exact ⟨rfl, H9.out⟩
        · go_wp2_with fail
          refine (unpack_no x _ hx.1 hx.2 (by omega)).mono ?_
          rintro r w7 ⟨rfl, hb⟩
          have H7 : Hid (Below w.heap.size w w7) := H6.out.trans (hb.mono H6.out.size)
          clear hb H6
          go_wp2_with fail
          refine (specUnpack_no x _ hx.1 hx.2 (by omega)).mono ?_
          rintro r w8 ⟨rfl, hb⟩
          obtain ⟨g0, g1, g2, _, _, _, gz⟩ := (T3.new w7 0 0 false 24).next hb
          have H8 : Hid (Below w.heap.size w w8) := (H7.out.alloc H7.out.size _).trans (hb.mono (by have := H7.out.size; simp; omega))
          have hz8 : w7.heap.size < w8.heap.size := gz
          have hzw : w.heap.size ≤ w8.heap.size := H8.out.size
          clear hb H7
          go_wp2
          go_ret
          exact ⟨rfl, H8.out.alloc hzw _⟩
      · have hoN : v / 2 = y / 2 := by omega
        have hoM : ¬ v / 2 < y / 2 := by omega
        subst hz
        clear HO ho
        go_wp2_with fail
        refine (unpack_yes v _ HX1.out.1 (by have := HX1.out.2; omega) HX1.out.2).mono ?_
        rintro r w5' ⟨rfl, hb⟩
        rw [HX2.out.1, HX2.out.2.1, HX2.out.2.2]
        have H5b : Hid (Below w.heap.size w w5') := H5.out.trans (hb.mono H5.out.size)
        obtain ⟨c0, c1, c2, _, _, _, cz⟩ := H5a.out.next hb
        obtain ⟨W5, hW5⟩ : ∃ z, z = w5'.alloc (.cells #[.int .i64 e, .int .i64 s, .bool b] 24) := ⟨_, rfl⟩
        have H5c : Hid (Below w.heap.size w W5) := by rw [hW5]; exact H5b.out.alloc H5b.out.size _
        have hz5 : w.heap.size ≤ w5'.heap.size := H5b.out.size
        clear hb H5
        have H5 : Hid (Below w.heap.size w W5) := H5c
        clear H5c H5b H5a
        rw [hW5] at H5
        clear hW5
        go_wp2_with fail
        refine (drawUnpack_any _ _ _ Y _ hm' (HS.out.2.1.below H5.out (Nat.le_refl _)) HS.out.2.2).mono ?_
        rintro r w6 ⟨x, hx, rfl, hb⟩
        have H6 : Hid (Below w.heap.size w w6) := H5.out.trans (hb.mono H5.out.size)
        clear hb H5
        by_cases hx2 : x < 35184372088832
        · go_wp2_with fail
          refine (unpack_yes x _ hx.1 hx.2 hx2).mono ?_
          rintro r w7 ⟨rfl, hb⟩
          have H7 : Hid (Below w.heap.size w w7) := H6.out.trans (hb.mono H6.out.size)
          clear hb H6
          have HU : Hid (goodT (x / 33554432) (unS x) = true ∧ packW (x / 33554432) (unS x) (unL x) = x) := pack_un x hx.1 hx2
          obtain ⟨xe, hxe⟩ : ∃ z, z = x / 33554432 := ⟨_, rfl⟩
          obtain ⟨xs, hxs⟩ : ∃ z, z = unS x := ⟨_, rfl⟩
          obtain ⟨xl, hxl⟩ : ∃ z, z = unL x := ⟨_, rfl⟩
          have HE : Hid (xe = x / 33554432 ∧ xs = unS x ∧ xl = unL x) := ⟨hxe, hxs, hxl⟩
          rw [← hxe, ← hxs, ← hxl] at HU
          rw [← hxe, ← hxs, ← hxl]
          clear hxe hxs hxl
          go_wp2_with fail
          refine (specUnpack_yes x _ hx.1 hx.2 hx2).mono ?_
          rintro r w8 ⟨rfl, hb⟩
          rw [← HE.out.1, ← HE.out.2.1, ← HE.out.2.2]
          obtain ⟨g0, g1, g2, _, _, _, gz⟩ := (T3.new w7 xe xs xl 24).next hb
          have H8 : Hid (Below w.heap.size w w8) := (H7.out.alloc H7.out.size _).trans (hb.mono (by have := H7.out.size; simp; omega))
          have hz8 : w7.heap.size < w8.heap.size := gz
          have hzw : w.heap.size ≤ w8.heap.size := H8.out.size
          clear hb H7
          go_wp2_with fail
          refine (pack_yes xe xs xl _ HU.out.1).mono ?_
          rintro r w9 ⟨rfl, hb⟩
          have H9 : Hid (Below w.heap.size w w9) := (H8.out.alloc hzw _).trans (hb.mono (by simp; omega))
          clear hb
          rw [HU.out.2]
          go_wp2
          go_ret
          exact ⟨rfl, H9.out⟩
        · go_wp2_with fail
          refine (unpack_no x _ hx.1 hx.2 (by omega)).mono ?_
          rintro r w7 ⟨rfl, hb⟩
          have H7 : Hid (Below w.heap.size w w7) := H6.out.trans (hb.mono H6.out.size)
          clear hb H6
          go_wp2_with fail
          refine (specUnpack_no x _ hx.1 hx.2 (by omega)).mono ?_
          rintro r w8 ⟨rfl, hb⟩
          obtain ⟨g0, g1, g2, _, _, _, gz⟩ := (T3.new w7 0 0 false 24).next hb
          have H8 : Hid (Below w.heap.size w w8) := (H7.out.alloc H7.out.size _).trans (hb.mono (by have := H7.out.size; simp; omega))
          have hz8 : w7.heap.size < w8.heap.size := gz
          have hzw : w.heap.size ≤ w8.heap.size := H8.out.size
          clear hb H7
          go_wp2
          go_ret
          exact ⟨rfl, H8.out.alloc hzw _⟩
      · have hoN : ¬ v / 2 < y / 2 := by omega
        have hoM : ¬ v / 2 = y / 2 := by omega
        subst hz
        clear HO
        have hoB : (v / 2 == y / 2) = false := by simpa using hoM
        go_wp2_with fail
        refine (unpack_yes v _ HX1.out.1 (by have := HX1.out.2; omega) HX1.out.2).mono ?_
        rintro r w5' ⟨rfl, hb⟩
        rw [HX2.out.1, HX2.out.2.1, HX2.out.2.2]
        have H5b : Hid (Below w.heap.size w w5') := H5.out.trans (hb.mono H5.out.size)
        obtain ⟨c0, c1, c2, _, _, _, cz⟩ := H5a.out.next hb
        obtain ⟨W5, hW5⟩ : ∃ z, z = w5'.alloc (.cells #[.int .i64 e, .int .i64 s, .bool b] 24) := ⟨_, rfl⟩
        have H5c : Hid (Below w.heap.size w W5) := by rw [hW5]; exact H5b.out.alloc H5b.out.size _
        have hz5 : w.heap.size ≤ w5'.heap.size := H5b.out.size
        clear hb H5
        have H5 : Hid (Below w.heap.size w W5) := H5c
        clear H5c H5b H5a
        rw [hW5] at H5
        clear hW5
        go_wp2_with fail
        refine (drawUnpack_any _ _ _ Y _ hm' (HS.out.2.1.below H5.out (Nat.le_refl _)) HS.out.2.2).mono ?_
        rintro r w6 ⟨x, hx, rfl, hb⟩
        have H6 : Hid (Below w.heap.size w w6) := H5.out.trans (hb.mono H5.out.size)
        clear hb H5
        by_cases hx2 : x < 35184372088832
        · go_wp2_with fail
          refine (unpack_yes x _ hx.1 hx.2 hx2).mono ?_
          rintro r w7 ⟨rfl, hb⟩
          have H7 : Hid (Below w.heap.size w w7) := H6.out.trans (hb.mono H6.out.size)
          clear hb H6
          have HU : Hid (goodT (x / 33554432) (unS x) = true ∧ packW (x / 33554432) (unS x) (unL x) = x) := pack_un x hx.1 hx2
          obtain ⟨xe, hxe⟩ : ∃ z, z = x / 33554432 := ⟨_, rfl⟩
          obtain ⟨xs, hxs⟩ : ∃ z, z = unS x := ⟨_, rfl⟩
          obtain ⟨xl, hxl⟩ : ∃ z, z = unL x := ⟨_, rfl⟩
          have HE : Hid (xe = x / 33554432 ∧ xs = unS x ∧ xl = unL x) := ⟨hxe, hxs, hxl⟩
          rw [← hxe, ← hxs, ← hxl] at HU
          rw [← hxe, ← hxs, ← hxl]
          clear hxe hxs hxl
          go_wp2_with fail
          refine (specUnpack_yes x _ hx.1 hx.2 hx2).mono ?_
          rintro r w8 ⟨rfl, hb⟩
          rw [← HE.out.1, ← HE.out.2.1, ← HE.out.2.2]
          obtain ⟨g0, g1, g2, _, _, _, gz⟩ := (T3.new w7 xe xs xl 24).next hb
          have H8 : Hid (Below w.heap.size w w8) := (H7.out.alloc H7.out.size _).trans (hb.mono (by have := H7.out.size; simp; omega))
          have hz8 : w7.heap.size < w8.heap.size := gz
          have hzw : w.heap.size ≤ w8.heap.size := H8.out.size
          clear hb H7
          go_wp2_with fail
          refine (pack_yes xe xs xl _ HU.out.1).mono ?_
          rintro r w9 ⟨rfl, hb⟩
          have H9 : Hid (Below w.heap.size w w9) := (H8.out.alloc hzw _).trans (hb.mono (by simp; omega))
          clear hb
          rw [HU.out.2]
          go_wp2
          go_ret
          exact ⟨rfl, H9.out⟩
        · go_wp2_with fail
          refine (unpack_no x _ hx.1 hx.2 (by omega)).mono ?_
          rintro r w7 ⟨rfl, hb⟩
          have H7 : Hid (Below w.heap.size w w7) := H6.out.trans (hb.mono H6.out.size)
          clear hb H6
          go_wp2_with fail
          refine (specUnpack_no x _ hx.1 hx.2 (by omega)).mono ?_
          rintro r w8 ⟨rfl, hb⟩
          obtain ⟨g0, g1, g2, _, _, _, gz⟩ := (T3.new w7 0 0 false 24).next hb
          have H8 : Hid (Below w.heap.size w w8) := (H7.out.alloc H7.out.size _).trans (hb.mono (by have := H7.out.size; simp; omega))
          have hz8 : w7.heap.size < w8.heap.size := gz
          have hzw : w.heap.size ≤ w8.heap.size := H8.out.size
          clear hb H7
          go_wp2
          go_ret
          exact ⟨rfl, H8.out.alloc hzw _⟩


theorem own : ownKnob Try.prog.godebug = none := by kernel_rfl
theorem laidOut : laidOutB Try.prog = true := by kernel_rfl

set_option maxRecDepth 100000 in
theorem lifted (os : Os) (started : os.Started) (H : Type) (enc : TypeId × Value → H) :
    ReturnsInHanded {} Try.checked os 3 .any (Rows.fnTidsSpec.pre6 enc Try.prog Try.f3 Rows.fnTidsRow.domain false) (Rows.fnTidsSpec.post enc Try.prog Try.f3 false true false false) := by
  refine returnsInHanded_of_change (C := Try.checked) own started (by kernel_rfl) Try.func3
    (ChangeSpec.witness6 (enc := enc) (C := Try.checked) false ⟨#[], #[.slice none 0 0, .slice none 0 0], []⟩ 8 (by kernel_rfl) (by kernel_rfl) (by kernel_rfl) (by kernel_rfl)) ?_
  intro W base args ds gs before hval0 hW hcnd _
  have hval : ∀ (j : Nat) t v, Try.f3.params[j]? = some t → args[j]? = some v → Value.okWide Try.prog W .any base t v := hval0
  have hW' := hW
  obtain ⟨p, q, hA0, hV, rfl, hfz, hnd⟩ := hW
  have hA : DataW.TrodAll enc Try.prog W 0 (fun _ => true) true Try.f3.params.toList args.toList ds p := hA0
  rw [Try.params3] at hA hval
  obtain ⟨v0, vs0, d0, ds0, p0, q0, hargs, rfl, rfl, h0, r0⟩ := trodAll_cons hA
  obtain ⟨v1, vs1, d1, ds1, p1, q1, rfl, rfl, rfl, h1, r1⟩ := trodAll_cons r0
  obtain ⟨rfl, rfl, rfl⟩ := trodAll_nil r1
  obtain rfl : args = #[v0, v1] := by cases args; simp_all
  obtain ⟨rfl, rfl⟩ := trodVars_none hV
  have k0 := h0
  have lt0 : ∀ x ∈ p0, x.block < W.heap.size := by obtain ⟨m, hm⟩ := k0; exact DataW.trod_lt m _ _ _ hm
  obtain ⟨a0, len0, cap0, rfl⟩ := okWide_slice Try.underlying22 (hval 0 22 v0 rfl rfl)
  obtain ⟨n0, X0, s0, b0⟩ := open_bytes h0
  have k1 := h1
  have lt1 : ∀ x ∈ p1, x.block < W.heap.size := by obtain ⟨m, hm⟩ := k1; exact DataW.trod_lt m _ _ _ hm
  obtain ⟨a1, len1, cap1, rfl⟩ := okWide_slice Try.underlying22 (hval 1 22 v1 rfl rfl)
  obtain ⟨n1, X1, s1, b1⟩ := open_bytes h1
  clear hA0 hval0
  refine (walk (w := W) a0 len0 cap0 X0 n0 s0 b0 a1 len1 cap1 X1 n1 s1 b1).mono fun e W' ⟨he, bel⟩ => ?_
  subst he
  exact ⟨_, rfl, _, _, _, [], _, [], hW', trodAll_mk1 (shut_bool Try.underlying4 _), (trodAll_cons_mk (Below.trod laidOut (by kernel_rfl) (of_decide_eq_true (by kernel_rfl)) k0 bel lt0) (trodAll_cons_mk (Below.trod laidOut (by kernel_rfl) (of_decide_eq_true (by kernel_rfl)) k1 bel lt1) trodAll_mk0)), rfl, bel.frame _, fun h => by cases h⟩

set_option maxHeartbeats 40000000 in
theorem closed : joinedFacts Try.pinned.checked.prog 3 Try.f3 Rows.fnTidsSpec Rows.fnTidsRow = true := by
  unfold joinedFacts
  repeat' (first | (with_reducible refine both ?_ ?_) | (with_reducible exact may_enter') | (with_reducible refine lifts_eq ?_) | (with_reducible refine make_eq ?_) | as_aux_lemma => kernel_rfl)
theorem named : Try.pinned.checked.prog.funcNamed Rows.fnTidsRow.func = some 3 := by kernel_rfl
theorem over : Rows.fnTidsRow.holds Try.pinned (OpenSpec.ofChange Rows.fnTidsSpec) :=
  OpenClaim.holds_of_wide 3 Try.f3 rfl rfl rfl rfl rfl rfl rfl ⟨rfl, rfl, rfl, rfl, rfl⟩ rfl rfl rfl rfl rfl named Try.func3 closed
    (of_decide_eq_true (by as_aux_lemma => kernel_rfl)) (by unfold Func.isWrapper; first | (rw [if_pos (by decide +kernel)]; kernel_rfl) | (rw [if_neg (by decide +kernel)]; exact ⟨rfl, rfl⟩))
    (fun os started H enc _ => lifted os started H enc)

end Go.Proofs.Ytbklhmeaoigneaa.fTids
namespace Go.Proofs.Ytbklhmeaoigneaa
theorem fTids_holds : Rows.FnTidsSaid := fTids.over
#print axioms fTids_holds
end Go.Proofs.Ytbklhmeaoigneaa
