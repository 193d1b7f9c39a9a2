/- Sizes of this chapter's data, as the laws reckon them. Written by tools/nest.py. -/
import Derived.Test.YtcklpcdgckkahaaNtS
import Derived.Test.YtcklpcdgckkahaaProg
import Derived.Test.YtcklpcdgckkahaaBx
import Derived.WalkKit
import Derived.WalkSpells
import Derived.WalkLawsBesides
import Derived.Test.YtcklpcdgckkahaaShP
namespace Go.Proofs.Ytcklpcdgckkahaa
open Go.RowKit
set_option linter.unusedVariables false
set_option linter.unusedSimpArgs false

set_option maxRecDepth 100000 in
set_option maxHeartbeats 4000000 in
theorem szParcelS_n (a : Option Addr) (cap : Nat) (x : List (Sh.T shParcel)) (l : Int) (w : World) (h0 : 0 ≤ l) (hl : l ≤ 1048576) (hf : Fits (.list shParcel) x) (h : Lies w (.list shParcel) [.slice a x.length cap] x) :
    Calls Try.prog 108 #[.slice a x.length cap, .int .i64 l] w (SzP l (szD (.list shParcel) x) w) := by
  have hn : x.length ≤ 9223372036854775807 := by have := hf.1; unfold maxLen at this; omega
  have E : Hid (szD (.list shParcel) x = x.length) := by show x.length + _ = _; rw [sum_zero (f := szD shParcel) (fun _ => rfl)]; rfl
  clear h hf
  by_cases c : l - (x.length : Int) < 0
  · have HN : Hid (l < ((szD (.list shParcel) x : Nat) : Int)) := Hid.intro (by rw [E.out]; omega)
    generalize x.length = n at *
    go_enter Try.func108, Try.ntmps108
    go_wp2
    go_ret
    exact ⟨⟨-1, rfl, Or.inl ⟨rfl, HN.out⟩⟩, Below.refl _ _⟩
  · generalize x.length = n at *
    go_enter Try.func108, Try.ntmps108
    go_wp2
    go_ret
    exact ⟨⟨_, rfl, Or.inr ⟨by omega, by rw [E.out]⟩⟩, Below.refl _ _⟩
set_option maxRecDepth 100000 in
set_option maxHeartbeats 4000000 in
theorem szIntS_n (a : Option Addr) (cap : Nat) (x : List (Sh.T .int)) (l : Int) (w : World) (h0 : 0 ≤ l) (hl : l ≤ 1048576) (hf : Fits (.list .int) x) (h : Lies w (.list .int) [.slice a x.length cap] x) :
    Calls Try.prog 109 #[.slice a x.length cap, .int .i64 l] w (SzP l (szD (.list .int) x) w) := by
  have hn : x.length ≤ 9223372036854775807 := by have := hf.1; unfold maxLen at this; omega
  have E : Hid (szD (.list .int) x = x.length) := by show x.length + _ = _; rw [sum_zero (f := szD .int) (fun _ => rfl)]; rfl
  clear h hf
  by_cases c : l - (x.length : Int) < 0
  · have HN : Hid (l < ((szD (.list .int) x : Nat) : Int)) := Hid.intro (by rw [E.out]; omega)
    generalize x.length = n at *
    go_enter Try.func109, Try.ntmps109
    go_wp2
    go_ret
    exact ⟨⟨-1, rfl, Or.inl ⟨rfl, HN.out⟩⟩, Below.refl _ _⟩
  · generalize x.length = n at *
    go_enter Try.func109, Try.ntmps109
    go_wp2
    go_ret
    exact ⟨⟨_, rfl, Or.inr ⟨by omega, by rw [E.out]⟩⟩, Below.refl _ _⟩
set_option maxRecDepth 100000 in
set_option maxHeartbeats 4000000 in
theorem szWay_n (cs : List Value) (x0 : Int) (x1 : Int) (x2 : List (Sh.T shParcel)) (x3 : Bool) (x4 : List (Sh.T .int)) (l : Int) (w : World) (h0 : 0 ≤ l) (hl : l ≤ 1048576) (hf : Fits shWay (x0, x1, x2, x3, x4, ())) (h : Lies w shWay cs (x0, x1, x2, x3, x4, ())) :
    Calls Try.prog 95 #[.agg cs.toArray, .int .i64 l] w (SzP l (szD shWay (x0, x1, x2, x3, x4, ())) w) := by
  obtain ⟨a1, k1, a2, k2, rfl, h1, h2⟩ := lies_Way h
  have E : Hid (szD shWay (x0, x1, x2, x3, x4, ()) = (0 + (0 + (szD (.list shParcel) x2 + (0 + (szD (.list .int) x4 + 0)))))) := rfl
  have HFI : Hid (Fits shWay (x0, x1, x2, x3, x4, ())) := hf
  have HL : Hid (True ∧ Lies w (.list shParcel) [.slice a1 x2.length k1] x2 ∧ Lies w (.list .int) [.slice a2 x4.length k2] x4) := ⟨trivial, h1, h2⟩
  clear h hf h1 h2
  have HB0 : Hid (Bx (w.alloc (.cells #[.int .i64 x0, .int .i64 x1, .slice a1 x2.length k1, .bool x3, .slice a2 x4.length k2] 124)) w.heap.size [.int .i64 x0, .int .i64 x1, .slice a1 x2.length k1, .bool x3, .slice a2 x4.length k2] ∧ Below w.heap.size w (w.alloc (.cells #[.int .i64 x0, .int .i64 x1, .slice a1 x2.length k1, .bool x3, .slice a2 x4.length k2] 124))) := ⟨Bx.new w [.int .i64 x0, .int .i64 x1, .slice a1 x2.length k1, .bool x3, .slice a2 x4.length k2] _, Go.Joins.below_alloc1 _ _⟩
  go_enter Try.func95, Try.ntmps95
  have hl0 : 0 ≤ l ∧ l ≤ 1048576 := ⟨h0, hl⟩
  clear h0 hl
  obtain ⟨m2, hm2⟩ : ∃ y, y = l := ⟨_, rfl⟩
  have b2 : 0 ≤ m2 ∧ m2 ≤ 1048576 := by omega
  have HM2 : Hid (m2 = l) := hm2
  have d0 := HB0.out.1.cell 0 rfl
  have d1 := HB0.out.1.cell 1 rfl
  have d2 := HB0.out.1.cell 2 rfl
  have d3 := HB0.out.1.cell 3 rfl
  have d4 := HB0.out.1.cell 4 rfl
  have dz := HB0.out.1.2
  go_wp2_with fail
  (try rw [← hm2])
  clear hm2 dz d0 d1 d2 d3 d4
  refine (szParcelS_n _ _ x2 m2 _ b2.1 b2.2 HFI.out.2.2.1 (HL.out.2.1.next HB0.out.2)).mono ?_
  rintro r w1 ⟨⟨r2, rfl, hr2⟩, hb⟩
  have HB1 : Hid (Bx w1 w.heap.size [.int .i64 x0, .int .i64 x1, .slice a1 x2.length k1, .bool x3, .slice a2 x4.length k2] ∧ Below w.heap.size w w1) := ⟨HB0.out.1.next hb, HB0.out.2.trans (hb.mono HB0.out.2.size)⟩
  clear hb HB0
  by_cases c2 : r2 < 0
  · have HN : Hid (l < ((szD shWay (x0, x1, x2, x3, x4, ()) : Nat) : Int)) := Hid.intro (by rw [E.out]; have := HM2.out; omega)
    clear hr2
    go_wp2
    go_ret
    exact ⟨⟨-1, rfl, Or.inl ⟨rfl, HN.out⟩⟩, HB1.out.2⟩
  have HE2 : Hid (r2 = m2 - ((szD (.list shParcel) x2 : Nat) : Int)) := Hid.intro (by rcases hr2 with e | e; (· omega); exact e.2)
  have g2 : 0 ≤ r2 ∧ r2 ≤ 1048576 := by have := HE2.out; omega
  clear hr2
  obtain ⟨m4, hm4⟩ : ∃ y, y = r2 := ⟨_, rfl⟩
  have b4 : 0 ≤ m4 ∧ m4 ≤ 1048576 := by omega
  have HM4 : Hid (m4 = r2) := hm4
  have d0 := HB1.out.1.cell 0 rfl
  have d1 := HB1.out.1.cell 1 rfl
  have d2 := HB1.out.1.cell 2 rfl
  have d3 := HB1.out.1.cell 3 rfl
  have d4 := HB1.out.1.cell 4 rfl
  have dz := HB1.out.1.2
  go_wp2_with fail
  (try rw [← hm4])
  clear hm4 dz d0 d1 d2 d3 d4
  refine (szIntS_n _ _ x4 m4 _ b4.1 b4.2 HFI.out.2.2.2.2.1 (HL.out.2.2.next HB1.out.2)).mono ?_
  rintro r w2 ⟨⟨r4, rfl, hr4⟩, hb⟩
  have HB2 : Hid (Bx w2 w.heap.size [.int .i64 x0, .int .i64 x1, .slice a1 x2.length k1, .bool x3, .slice a2 x4.length k2] ∧ Below w.heap.size w w2) := ⟨HB1.out.1.next hb, HB1.out.2.trans (hb.mono HB1.out.2.size)⟩
  clear hb HB1
  by_cases c4 : r4 < 0
  · have HN : Hid (l < ((szD shWay (x0, x1, x2, x3, x4, ()) : Nat) : Int)) := Hid.intro (by rw [E.out]; have := HE2.out; have := HM2.out; have := HM4.out; omega)
    clear hr4
    go_wp2
    go_ret
    exact ⟨⟨-1, rfl, Or.inl ⟨rfl, HN.out⟩⟩, HB2.out.2⟩
  have HE4 : Hid (r4 = m4 - ((szD (.list .int) x4 : Nat) : Int)) := Hid.intro (by rcases hr4 with e | e; (· omega); exact e.2)
  have g4 : 0 ≤ r4 ∧ r4 ≤ 1048576 := by have := HE4.out; omega
  clear hr4
  have d0 := HB2.out.1.cell 0 rfl
  have d1 := HB2.out.1.cell 1 rfl
  have d2 := HB2.out.1.cell 2 rfl
  have d3 := HB2.out.1.cell 3 rfl
  have d4 := HB2.out.1.cell 4 rfl
  have dz := HB2.out.1.2
  go_wp2
  go_ret
  exact ⟨⟨_, rfl, Or.inr ⟨by omega, by rw [E.out]; have := HE2.out; have := HM2.out; have := HE4.out; have := HM4.out; omega⟩⟩, HB2.out.2⟩
set_option maxRecDepth 100000 in
set_option maxHeartbeats 4000000 in
theorem szBankS_n (a : Option Addr) (cap : Nat) (x : List (Sh.T shBank)) (l : Int) (w : World) (h0 : 0 ≤ l) (hl : l ≤ 1048576) (hf : Fits (.list shBank) x) (h : Lies w (.list shBank) [.slice a x.length cap] x) :
    Calls Try.prog 71 #[.slice a x.length cap, .int .i64 l] w (SzP l (szD (.list shBank) x) w) := by
  have hn : x.length ≤ 9223372036854775807 := by have := hf.1; unfold maxLen at this; omega
  have E : Hid (szD (.list shBank) x = x.length) := by show x.length + _ = _; rw [sum_zero (f := szD shBank) (fun _ => rfl)]; rfl
  clear h hf
  by_cases c : l - (x.length : Int) < 0
  · have HN : Hid (l < ((szD (.list shBank) x : Nat) : Int)) := Hid.intro (by rw [E.out]; omega)
    generalize x.length = n at *
    go_enter Try.func71, Try.ntmps71
    go_wp2
    go_ret
    exact ⟨⟨-1, rfl, Or.inl ⟨rfl, HN.out⟩⟩, Below.refl _ _⟩
  · generalize x.length = n at *
    go_enter Try.func71, Try.ntmps71
    go_wp2
    go_ret
    exact ⟨⟨_, rfl, Or.inr ⟨by omega, by rw [E.out]⟩⟩, Below.refl _ _⟩
set_option maxRecDepth 100000 in
set_option maxHeartbeats 4000000 in
theorem szWayS_n (a : Option Addr) (cap : Nat) (x : List (Sh.T shWay)) (l : Int) (w : World) (h0 : 0 ≤ l) (hl : l ≤ 1048576) (hf : Fits (.list shWay) x) (h : Lies w (.list shWay) [.slice a x.length cap] x) :
    Calls Try.prog 72 #[.slice a x.length cap, .int .i64 l] w (SzP l (szD (.list shWay) x) w) := by
  have hn : x.length ≤ 9223372036854775807 := by have := hf.1; unfold maxLen at this; omega
  have HL : Hid (Lies w (.list shWay) [.slice a x.length cap] x ∧ Fits (.list shWay) x) := ⟨h, hf⟩
  clear h hf
  have HSZ : Hid (szD (.list shWay) x = x.length + (x.map (szD shWay)).sum) := rfl
  have HPT : Hid (∀ k, ((x.take k).map (szD shWay)).sum ≤ (x.map (szD shWay)).sum) := sz_part x
  obtain ⟨n, hnn⟩ : ∃ n, n = x.length := ⟨_, rfl⟩
  have HN : Hid (n = x.length) := hnn
  rw [← hnn] at hn ⊢
  clear hnn
  by_cases c : l - (n : Int) < 0
  · have HX : Hid (l < ((szD (.list shWay) x : Nat) : Int)) := Hid.intro (by rw [HSZ.out]; have := HN.out; omega)
    go_enter Try.func72, Try.ntmps72
    go_wp2
    go_ret
    exact ⟨⟨-1, rfl, Or.inl ⟨rfl, HX.out⟩⟩, Below.refl _ _⟩
  go_enter Try.func72, Try.ntmps72
  go_wp2
  go_loopw [1, 5] (fun q i wr => ∃ (k : Nat) (y : Int), k ≤ n ∧ i = .int .i64 k ∧ q = .int .i64 y ∧ 0 ≤ y ∧ y ≤ 1048576 ∧ y = l - (n : Int) - ((((x.take k).map (szD shWay)).sum : Nat) : Int) ∧ Below w.heap.size w wr) (fun _ i _ => n - (intOf i).toNat)
  case atStart => exact ⟨0, _, Nat.zero_le _, rfl, rfl, by omega, by omega, by simp, Below.refl _ _⟩
  case round =>
    obtain ⟨k, y, hk, rfl, rfl, hy0, hy1, hys, hBr⟩ := hrel
    have HY : Hid (y = l - (n : Int) - ((((x.take k).map (szD shWay)).sum : Nat) : Int)) := hys
    clear hys
    by_cases hlt : k < n
    · have hlx : k < x.length := by have := HN.out; omega
      obtain ⟨g, off, hgo, hgs, ec, hel, hec, hle⟩ := Lies.elem (HL.out.1.next hBr) hlx
      subst hgo
      have hlt' : (k : Int) < (n : Int) := by omega
      have HB : Hid (Below w.heap.size w wr) := hBr
      have HS : Hid (((x.take (k + 1)).map (szD shWay)).sum = ((x.take k).map (szD shWay)).sum + szD shWay x[k]) := sz_take x k hlx
      have HCS : Hid (Lies wr shWay ec x[k] ∧ Fits shWay x[k]) := ⟨hle, HL.out.2.2 _ (List.getElem_mem hlx)⟩
      obtain ⟨v0, v1, v2, v3, v4, hev⟩ := list_of5 hel
      subst hev
      have c0 : wr.cell? ⟨g, off + k * 5, none⟩ = some v0 := hec 0 (by simp)
      have c1 : wr.cell? ⟨g, off + k * 5 + 1, none⟩ = some v1 := hec 1 (by simp)
      have c2 : wr.cell? ⟨g, off + k * 5 + 2, none⟩ = some v2 := hec 2 (by simp)
      have c3 : wr.cell? ⟨g, off + k * 5 + 3, none⟩ = some v3 := hec 3 (by simp)
      have c4 : wr.cell? ⟨g, off + k * 5 + 4, none⟩ = some v4 := hec 4 (by simp)
      clear hec hel hBr hle
      go_wp2_with fail
      refine (szWay_n [v0, v1, v2, v3, v4] x[k].1 x[k].2.1 x[k].2.2.1 x[k].2.2.2.1 x[k].2.2.2.2.1 y _ hy0 hy1 HCS.out.2 HCS.out.1).mono ?_
      rintro r w2 ⟨⟨l2, rfl, hl2⟩, hb2⟩
      have HB2 : Hid (Below w.heap.size w w2) := HB.out.trans (hb2.mono HB.out.size)
      clear hb2 HB c0 c1 c2 c3 c4
      by_cases hy : l2 < 0
      · have HX : Hid (l < ((szD (.list shWay) x : Nat) : Int)) := Hid.intro (by
          have h1 : y < ((szD shWay x[k] : Nat) : Int) := by rcases hl2 with e | e; (· exact e.2); omega
          have h2 := HPT.out (k + 1)
          have := HSZ.out; have := HS.out; have := HY.out; have := HN.out
          omega)
        clear hl2
        go_wp2
        go_ret
        exact ⟨⟨-1, rfl, Or.inl ⟨rfl, HX.out⟩⟩, HB2.out⟩
      · have HE : Hid (l2 = y - ((szD shWay x[k] : Nat) : Int)) := Hid.intro (by rcases hl2 with e | e; (· omega); exact e.2)
        have hl3 : 0 ≤ l2 ∧ l2 ≤ 1048576 := by have := HE.out; omega
        clear hl2
        go_wp2
        go_roundw
        case rel => exact ⟨k + 1, l2, by omega, by go_num, rfl, hl3.1, hl3.2, by rw [HS.out]; have := HE.out; have := HY.out; omega, HB2.out⟩
        case measure => simp [intOf]; omega
    · have hkn : k = n := by omega
      have HF : Hid (y = l - ((szD (.list shWay) x : Nat) : Int)) := Hid.intro (by
        have h1 := HY.out
        rw [hkn, HN.out, List.take_length] at h1
        rw [h1, HSZ.out]
        omega)
      clear hkn
      have HB : Hid (Below w.heap.size w wr) := hBr
      clear hBr
      go_wp2
      go_ret
      exact ⟨⟨y, rfl, Or.inr ⟨hy0, HF.out⟩⟩, HB.out⟩
set_option maxRecDepth 100000 in
set_option maxHeartbeats 4000000 in
theorem szNet_n (cs : List Value) (x0 : List (Sh.T shBank)) (x1 : List (Sh.T shWay)) (l : Int) (w : World) (h0 : 0 ≤ l) (hl : l ≤ 1048576) (hf : Fits shNet (x0, x1, ())) (h : Lies w shNet cs (x0, x1, ())) :
    Calls Try.prog 35 #[.agg cs.toArray, .int .i64 l] w (SzP l (szD shNet (x0, x1, ())) w) := by
  obtain ⟨a1, k1, a2, k2, rfl, h1, h2⟩ := lies_Net h
  have E : Hid (szD shNet (x0, x1, ()) = (szD (.list shBank) x0 + (szD (.list shWay) x1 + 0))) := rfl
  have HFI : Hid (Fits shNet (x0, x1, ())) := hf
  have HL : Hid (True ∧ Lies w (.list shBank) [.slice a1 x0.length k1] x0 ∧ Lies w (.list shWay) [.slice a2 x1.length k2] x1) := ⟨trivial, h1, h2⟩
  clear h hf h1 h2
  have HB0 : Hid (Bx (w.alloc (.cells #[.slice a1 x0.length k1, .slice a2 x1.length k2] 58)) w.heap.size [.slice a1 x0.length k1, .slice a2 x1.length k2] ∧ Below w.heap.size w (w.alloc (.cells #[.slice a1 x0.length k1, .slice a2 x1.length k2] 58))) := ⟨Bx.new w [.slice a1 x0.length k1, .slice a2 x1.length k2] _, Go.Joins.below_alloc1 _ _⟩
  go_enter Try.func35, Try.ntmps35
  have hl0 : 0 ≤ l ∧ l ≤ 1048576 := ⟨h0, hl⟩
  clear h0 hl
  obtain ⟨m0, hm0⟩ : ∃ y, y = l := ⟨_, rfl⟩
  have b0 : 0 ≤ m0 ∧ m0 ≤ 1048576 := by omega
  have HM0 : Hid (m0 = l) := hm0
  have d0 := HB0.out.1.cell 0 rfl
  have d1 := HB0.out.1.cell 1 rfl
  have dz := HB0.out.1.2
  go_wp2_with fail
  (try rw [← hm0])
  clear hm0 dz d0 d1
  refine (szBankS_n _ _ x0 m0 _ b0.1 b0.2 HFI.out.1 (HL.out.2.1.next HB0.out.2)).mono ?_
  rintro r w1 ⟨⟨r0, rfl, hr0⟩, hb⟩
  have HB1 : Hid (Bx w1 w.heap.size [.slice a1 x0.length k1, .slice a2 x1.length k2] ∧ Below w.heap.size w w1) := ⟨HB0.out.1.next hb, HB0.out.2.trans (hb.mono HB0.out.2.size)⟩
  clear hb HB0
  by_cases c0 : r0 < 0
  · have HN : Hid (l < ((szD shNet (x0, x1, ()) : Nat) : Int)) := Hid.intro (by rw [E.out]; have := HM0.out; omega)
    clear hr0
    go_wp2
    go_ret
    exact ⟨⟨-1, rfl, Or.inl ⟨rfl, HN.out⟩⟩, HB1.out.2⟩
  have HE0 : Hid (r0 = m0 - ((szD (.list shBank) x0 : Nat) : Int)) := Hid.intro (by rcases hr0 with e | e; (· omega); exact e.2)
  have g0 : 0 ≤ r0 ∧ r0 ≤ 1048576 := by have := HE0.out; omega
  clear hr0
  obtain ⟨m1, hm1⟩ : ∃ y, y = r0 := ⟨_, rfl⟩
  have b1 : 0 ≤ m1 ∧ m1 ≤ 1048576 := by omega
  have HM1 : Hid (m1 = r0) := hm1
  have d0 := HB1.out.1.cell 0 rfl
  have d1 := HB1.out.1.cell 1 rfl
  have dz := HB1.out.1.2
  go_wp2_with fail
  (try rw [← hm1])
  clear hm1 dz d0 d1
  refine (szWayS_n _ _ x1 m1 _ b1.1 b1.2 HFI.out.2.1 (HL.out.2.2.next HB1.out.2)).mono ?_
  rintro r w2 ⟨⟨r1, rfl, hr1⟩, hb⟩
  have HB2 : Hid (Bx w2 w.heap.size [.slice a1 x0.length k1, .slice a2 x1.length k2] ∧ Below w.heap.size w w2) := ⟨HB1.out.1.next hb, HB1.out.2.trans (hb.mono HB1.out.2.size)⟩
  clear hb HB1
  by_cases c1 : r1 < 0
  · have HN : Hid (l < ((szD shNet (x0, x1, ()) : Nat) : Int)) := Hid.intro (by rw [E.out]; have := HE0.out; have := HM0.out; have := HM1.out; omega)
    clear hr1
    go_wp2
    go_ret
    exact ⟨⟨-1, rfl, Or.inl ⟨rfl, HN.out⟩⟩, HB2.out.2⟩
  have HE1 : Hid (r1 = m1 - ((szD (.list shWay) x1 : Nat) : Int)) := Hid.intro (by rcases hr1 with e | e; (· omega); exact e.2)
  have g1 : 0 ≤ r1 ∧ r1 ≤ 1048576 := by have := HE1.out; omega
  clear hr1
  have d0 := HB2.out.1.cell 0 rfl
  have d1 := HB2.out.1.cell 1 rfl
  have dz := HB2.out.1.2
  go_wp2
  go_ret
  exact ⟨⟨_, rfl, Or.inr ⟨by omega, by rw [E.out]; have := HE0.out; have := HM0.out; have := HE1.out; have := HM1.out; omega⟩⟩, HB2.out.2⟩
set_option maxRecDepth 100000 in
set_option maxHeartbeats 4000000 in
theorem szBankStepS_n (a : Option Addr) (cap : Nat) (x : List (Sh.T shBankStep)) (l : Int) (w : World) (h0 : 0 ≤ l) (hl : l ≤ 1048576) (hf : Fits (.list shBankStep) x) (h : Lies w (.list shBankStep) [.slice a x.length cap] x) :
    Calls Try.prog 38 #[.slice a x.length cap, .int .i64 l] w (SzP l (szD (.list shBankStep) x) w) := by
  have hn : x.length ≤ 9223372036854775807 := by have := hf.1; unfold maxLen at this; omega
  have E : Hid (szD (.list shBankStep) x = x.length) := by show x.length + _ = _; rw [sum_zero (f := szD shBankStep) (fun _ => rfl)]; rfl
  clear h hf
  by_cases c : l - (x.length : Int) < 0
  · have HN : Hid (l < ((szD (.list shBankStep) x : Nat) : Int)) := Hid.intro (by rw [E.out]; omega)
    generalize x.length = n at *
    go_enter Try.func38, Try.ntmps38
    go_wp2
    go_ret
    exact ⟨⟨-1, rfl, Or.inl ⟨rfl, HN.out⟩⟩, Below.refl _ _⟩
  · generalize x.length = n at *
    go_enter Try.func38, Try.ntmps38
    go_wp2
    go_ret
    exact ⟨⟨_, rfl, Or.inr ⟨by omega, by rw [E.out]⟩⟩, Below.refl _ _⟩
end Go.Proofs.Ytcklpcdgckkahaa
