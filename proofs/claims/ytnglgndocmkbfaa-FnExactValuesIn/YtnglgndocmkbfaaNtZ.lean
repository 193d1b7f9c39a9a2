/- Sizes of this chapter's data, as the laws reckon them. Written by tools/nest.py. -/
import Derived.Test.YtnglgndocmkbfaaNtS
import Derived.Test.YtnglgndocmkbfaaProg
import Derived.Test.YtnglgndocmkbfaaBx
import Derived.WalkKit
import Derived.WalkSpells
import Derived.WalkLawsBesides
import Derived.Test.YtnglgndocmkbfaaShP
namespace Go.Proofs.Ytnglgndocmkbfaa
open Go.RowKit
set_option linter.unusedVariables false
set_option linter.unusedSimpArgs false

set_option maxRecDepth 100000 in
set_option maxHeartbeats 4000000 in
theorem szIntS_n (a : Option Addr) (cap : Nat) (x : List (Sh.T .int)) (l : Int) (w : World) (h0 : 0 ≤ l) (hl : l ≤ 1048576) (hf : Fits (.list .int) x) (h : Lies w (.list .int) [.slice a x.length cap] x) :
    Calls Try.prog 93 #[.slice a x.length cap, .int .i64 l] w (SzP l (szD (.list .int) x) w) := by
  have hn : x.length ≤ 9223372036854775807 := by have := hf.1; unfold maxLen at this; omega
  have E : Hid (szD (.list .int) x = x.length) := by show x.length + _ = _; rw [sum_zero (f := szD .int) (fun _ => rfl)]; rfl
  clear h hf
  by_cases c : l - (x.length : Int) < 0
  · have HN : Hid (l < ((szD (.list .int) x : Nat) : Int)) := Hid.intro (by rw [E.out]; omega)
    generalize x.length = n at *
    go_enter Try.func93, Try.ntmps93
    go_wp2
    go_ret
    exact ⟨⟨-1, rfl, Or.inl ⟨rfl, HN.out⟩⟩, Below.refl _ _⟩
  · generalize x.length = n at *
    go_enter Try.func93, Try.ntmps93
    go_wp2
    go_ret
    exact ⟨⟨_, rfl, Or.inr ⟨by omega, by rw [E.out]⟩⟩, Below.refl _ _⟩
set_option maxRecDepth 100000 in
set_option maxHeartbeats 4000000 in
theorem szCounter_n (cs : List Value) (x0 : List (Sh.T .int)) (x1 : List (Sh.T .int)) (l : Int) (w : World) (h0 : 0 ≤ l) (hl : l ≤ 1048576) (hf : Fits shCounter (x0, x1, ())) (h : Lies w shCounter cs (x0, x1, ())) :
    Calls Try.prog 40 #[.agg cs.toArray, .int .i64 l] w (SzP l (szD shCounter (x0, x1, ())) w) := by
  obtain ⟨a1, k1, a2, k2, rfl, h1, h2⟩ := lies_Counter h
  have E : Hid (szD shCounter (x0, x1, ()) = (szD (.list .int) x0 + (szD (.list .int) x1 + 0))) := rfl
  have HFI : Hid (Fits shCounter (x0, x1, ())) := hf
  have HL : Hid (True ∧ Lies w (.list .int) [.slice a1 x0.length k1] x0 ∧ Lies w (.list .int) [.slice a2 x1.length k2] x1) := ⟨trivial, h1, h2⟩
  clear h hf h1 h2
  have HB0 : Hid (Bx (w.alloc (.cells #[.slice a1 x0.length k1, .slice a2 x1.length k2] 63)) w.heap.size [.slice a1 x0.length k1, .slice a2 x1.length k2] ∧ Below w.heap.size w (w.alloc (.cells #[.slice a1 x0.length k1, .slice a2 x1.length k2] 63))) := ⟨Bx.new w [.slice a1 x0.length k1, .slice a2 x1.length k2] _, Go.Joins.below_alloc1 _ _⟩
  go_enter Try.func40, Try.ntmps40
  have hl0 : 0 ≤ l ∧ l ≤ 1048576 := ⟨h0, hl⟩
  clear h0 hl
  obtain ⟨m0, hm0⟩ : ∃ y, y = l := ⟨_, rfl⟩
  have b0 : 0 ≤ m0 ∧ m0 ≤ 1048576 := by omega
  have HM0 : Hid (m0 = l) := hm0
  have d0 := HB0.out.1.cell 0 rfl
  have d1 := HB0.out.1.cell 1 rfl
  have dz := HB0.out.1.2
  go_wp2_with fail
  (try rw [← hm0])
  clear hm0 dz d0 d1
  refine (szIntS_n _ _ x0 m0 _ b0.1 b0.2 HFI.out.1 (HL.out.2.1.next HB0.out.2)).mono ?_
  rintro r w1 ⟨⟨r0, rfl, hr0⟩, hb⟩
  have HB1 : Hid (Bx w1 w.heap.size [.slice a1 x0.length k1, .slice a2 x1.length k2] ∧ Below w.heap.size w w1) := ⟨HB0.out.1.next hb, HB0.out.2.trans (hb.mono HB0.out.2.size)⟩
  clear hb HB0
  by_cases c0 : r0 < 0
  · have HN : Hid (l < ((szD shCounter (x0, x1, ()) : Nat) : Int)) := Hid.intro (by rw [E.out]; have := HM0.out; omega)
    clear hr0
    go_wp2
    go_ret
    exact ⟨⟨-1, rfl, Or.inl ⟨rfl, HN.out⟩⟩, HB1.out.2⟩
  have HE0 : Hid (r0 = m0 - ((szD (.list .int) x0 : Nat) : Int)) := Hid.intro (by rcases hr0 with e | e; (· omega); exact e.2)
  have g0 : 0 ≤ r0 ∧ r0 ≤ 1048576 := by have := HE0.out; omega
  clear hr0
  obtain ⟨m1, hm1⟩ : ∃ y, y = r0 := ⟨_, rfl⟩
  have b1 : 0 ≤ m1 ∧ m1 ≤ 1048576 := by omega
  have HM1 : Hid (m1 = r0) := hm1
  have d0 := HB1.out.1.cell 0 rfl
  have d1 := HB1.out.1.cell 1 rfl
  have dz := HB1.out.1.2
  go_wp2_with fail
  (try rw [← hm1])
  clear hm1 dz d0 d1
  refine (szIntS_n _ _ x1 m1 _ b1.1 b1.2 HFI.out.2.1 (HL.out.2.2.next HB1.out.2)).mono ?_
  rintro r w2 ⟨⟨r1, rfl, hr1⟩, hb⟩
  have HB2 : Hid (Bx w2 w.heap.size [.slice a1 x0.length k1, .slice a2 x1.length k2] ∧ Below w.heap.size w w2) := ⟨HB1.out.1.next hb, HB1.out.2.trans (hb.mono HB1.out.2.size)⟩
  clear hb HB1
  by_cases c1 : r1 < 0
  · have HN : Hid (l < ((szD shCounter (x0, x1, ()) : Nat) : Int)) := Hid.intro (by rw [E.out]; have := HE0.out; have := HM0.out; have := HM1.out; omega)
    clear hr1
    go_wp2
    go_ret
    exact ⟨⟨-1, rfl, Or.inl ⟨rfl, HN.out⟩⟩, HB2.out.2⟩
  have HE1 : Hid (r1 = m1 - ((szD (.list .int) x1 : Nat) : Int)) := Hid.intro (by rcases hr1 with e | e; (· omega); exact e.2)
  have g1 : 0 ≤ r1 ∧ r1 ≤ 1048576 := by have := HE1.out; omega
  clear hr1
  have d0 := HB2.out.1.cell 0 rfl
  have d1 := HB2.out.1.cell 1 rfl
  have dz := HB2.out.1.2
  go_wp2
  go_ret
  exact ⟨⟨_, rfl, Or.inr ⟨by omega, by rw [E.out]; have := HE0.out; have := HM0.out; have := HE1.out; have := HM1.out; omega⟩⟩, HB2.out.2⟩
set_option maxRecDepth 100000 in
set_option maxHeartbeats 4000000 in
theorem szLatest_n (cs : List Value) (x0 : ByteArray) (x1 : Int) (x2 : Int) (l : Int) (w : World) (h0 : 0 ≤ l) (hl : l ≤ 1048576) (hf : Fits shLatest (x0, x1, x2, ())) (h : Lies w shLatest cs (x0, x1, x2, ())) :
    Calls Try.prog 47 #[.agg cs.toArray, .int .i64 l] w (SzP l (szD shLatest (x0, x1, x2, ())) w) := by
  obtain rfl := lies_Latest h
  have E : Hid (szD shLatest (x0, x1, x2, ()) = (x0.size + (0 + (0 + 0)))) := rfl
  have HFI : Hid (Fits shLatest (x0, x1, x2, ())) := hf
  have HL : Hid True := trivial
  clear h hf
  have HB0 : Hid (Bx (w.alloc (.cells #[.string x0, .int .i64 x1, .int .i64 x2] 70)) w.heap.size [.string x0, .int .i64 x1, .int .i64 x2] ∧ Below w.heap.size w (w.alloc (.cells #[.string x0, .int .i64 x1, .int .i64 x2] 70))) := ⟨Bx.new w [.string x0, .int .i64 x1, .int .i64 x2] _, Go.Joins.below_alloc1 _ _⟩
  have s0 : x0.size ≤ 9223372036854775807 := (by have := HFI.out.1; unfold Fits maxLen at this; omega)
  go_enter Try.func47, Try.ntmps47
  have hl0 : 0 ≤ l ∧ l ≤ 1048576 := ⟨h0, hl⟩
  clear h0 hl
  by_cases c0 : (l - (x0.size : Int)) < 0
  · have HN : Hid (l < ((szD shLatest (x0, x1, x2, ()) : Nat) : Int)) := Hid.intro (by rw [E.out]; omega)
    go_wp2
    go_ret
    exact ⟨⟨-1, rfl, Or.inl ⟨rfl, HN.out⟩⟩, HB0.out.2⟩
  have d0 := HB0.out.1.cell 0 rfl
  have d1 := HB0.out.1.cell 1 rfl
  have d2 := HB0.out.1.cell 2 rfl
  have dz := HB0.out.1.2
  go_wp2
  go_ret
  exact ⟨⟨_, rfl, Or.inr ⟨by omega, by rw [E.out]; omega⟩⟩, HB0.out.2⟩
set_option maxRecDepth 100000 in
set_option maxHeartbeats 4000000 in
theorem szAdd_n (cs : List Value) (x0 : ByteArray) (x1 : Int) (x2 : Int) (l : Int) (w : World) (h0 : 0 ≤ l) (hl : l ≤ 1048576) (hf : Fits shAdd (x0, x1, x2, ())) (h : Lies w shAdd cs (x0, x1, x2, ())) :
    Calls Try.prog 127 #[.agg cs.toArray, .int .i64 l] w (SzP l (szD shAdd (x0, x1, x2, ())) w) := by
  obtain rfl := lies_Add h
  have E : Hid (szD shAdd (x0, x1, x2, ()) = (x0.size + (0 + (0 + 0)))) := rfl
  have HFI : Hid (Fits shAdd (x0, x1, x2, ())) := hf
  have HL : Hid True := trivial
  clear h hf
  have HB0 : Hid (Bx (w.alloc (.cells #[.string x0, .int .i64 x1, .int .i64 x2] 158)) w.heap.size [.string x0, .int .i64 x1, .int .i64 x2] ∧ Below w.heap.size w (w.alloc (.cells #[.string x0, .int .i64 x1, .int .i64 x2] 158))) := ⟨Bx.new w [.string x0, .int .i64 x1, .int .i64 x2] _, Go.Joins.below_alloc1 _ _⟩
  have s0 : x0.size ≤ 9223372036854775807 := (by have := HFI.out.1; unfold Fits maxLen at this; omega)
  go_enter Try.func127, Try.ntmps127
  have hl0 : 0 ≤ l ∧ l ≤ 1048576 := ⟨h0, hl⟩
  clear h0 hl
  by_cases c0 : (l - (x0.size : Int)) < 0
  · have HN : Hid (l < ((szD shAdd (x0, x1, x2, ()) : Nat) : Int)) := Hid.intro (by rw [E.out]; omega)
    go_wp2
    go_ret
    exact ⟨⟨-1, rfl, Or.inl ⟨rfl, HN.out⟩⟩, HB0.out.2⟩
  have d0 := HB0.out.1.cell 0 rfl
  have d1 := HB0.out.1.cell 1 rfl
  have d2 := HB0.out.1.cell 2 rfl
  have dz := HB0.out.1.2
  go_wp2
  go_ret
  exact ⟨⟨_, rfl, Or.inr ⟨by omega, by rw [E.out]; omega⟩⟩, HB0.out.2⟩
set_option maxRecDepth 100000 in
set_option maxHeartbeats 4000000 in
theorem szAddS_n (a : Option Addr) (cap : Nat) (x : List (Sh.T shAdd)) (l : Int) (w : World) (h0 : 0 ≤ l) (hl : l ≤ 1048576) (hf : Fits (.list shAdd) x) (h : Lies w (.list shAdd) [.slice a x.length cap] x) :
    Calls Try.prog 99 #[.slice a x.length cap, .int .i64 l] w (SzP l (szD (.list shAdd) x) w) := by
  have hn : x.length ≤ 9223372036854775807 := by have := hf.1; unfold maxLen at this; omega
  have HL : Hid (Lies w (.list shAdd) [.slice a x.length cap] x ∧ Fits (.list shAdd) x) := ⟨h, hf⟩
  clear h hf
  have HSZ : Hid (szD (.list shAdd) x = x.length + (x.map (szD shAdd)).sum) := rfl
  have HPT : Hid (∀ k, ((x.take k).map (szD shAdd)).sum ≤ (x.map (szD shAdd)).sum) := sz_part x
  obtain ⟨n, hnn⟩ : ∃ n, n = x.length := ⟨_, rfl⟩
  have HN : Hid (n = x.length) := hnn
  rw [← hnn] at hn ⊢
  clear hnn
  by_cases c : l - (n : Int) < 0
  · have HX : Hid (l < ((szD (.list shAdd) x : Nat) : Int)) := Hid.intro (by rw [HSZ.out]; have := HN.out; omega)
    go_enter Try.func99, Try.ntmps99
    go_wp2
    go_ret
    exact ⟨⟨-1, rfl, Or.inl ⟨rfl, HX.out⟩⟩, Below.refl _ _⟩
  go_enter Try.func99, Try.ntmps99
  go_wp2
  go_loopw [1, 5] (fun q i wr => ∃ (k : Nat) (y : Int), k ≤ n ∧ i = .int .i64 k ∧ q = .int .i64 y ∧ 0 ≤ y ∧ y ≤ 1048576 ∧ y = l - (n : Int) - ((((x.take k).map (szD shAdd)).sum : Nat) : Int) ∧ Below w.heap.size w wr) (fun _ i _ => n - (intOf i).toNat)
  case atStart => exact ⟨0, _, Nat.zero_le _, rfl, rfl, by omega, by omega, by simp, Below.refl _ _⟩
  case round =>
    obtain ⟨k, y, hk, rfl, rfl, hy0, hy1, hys, hBr⟩ := hrel
    have HY : Hid (y = l - (n : Int) - ((((x.take k).map (szD shAdd)).sum : Nat) : Int)) := hys
    clear hys
    by_cases hlt : k < n
    · have hlx : k < x.length := by have := HN.out; omega
      obtain ⟨g, off, hgo, hgs, ec, hel, hec, hle⟩ := Lies.elem (HL.out.1.next hBr) hlx
      subst hgo
      have hlt' : (k : Int) < (n : Int) := by omega
      have HB : Hid (Below w.heap.size w wr) := hBr
      have HS : Hid (((x.take (k + 1)).map (szD shAdd)).sum = ((x.take k).map (szD shAdd)).sum + szD shAdd x[k]) := sz_take x k hlx
      have HCS : Hid (Lies wr shAdd ec x[k] ∧ Fits shAdd x[k]) := ⟨hle, HL.out.2.2 _ (List.getElem_mem hlx)⟩
      obtain ⟨v0, v1, v2, hev⟩ := list_of3 hel
      subst hev
      have c0 : wr.cell? ⟨g, off + k * 3, none⟩ = some v0 := hec 0 (by simp)
      have c1 : wr.cell? ⟨g, off + k * 3 + 1, none⟩ = some v1 := hec 1 (by simp)
      have c2 : wr.cell? ⟨g, off + k * 3 + 2, none⟩ = some v2 := hec 2 (by simp)
      clear hec hel hBr hle
      go_wp2_with fail
      refine (szAdd_n [v0, v1, v2] x[k].1 x[k].2.1 x[k].2.2.1 y _ hy0 hy1 HCS.out.2 HCS.out.1).mono ?_
      rintro r w2 ⟨⟨l2, rfl, hl2⟩, hb2⟩
      have HB2 : Hid (Below w.heap.size w w2) := HB.out.trans (hb2.mono HB.out.size)
      clear hb2 HB c0 c1 c2
      by_cases hy : l2 < 0
      · have HX : Hid (l < ((szD (.list shAdd) x : Nat) : Int)) := Hid.intro (by
          have h1 : y < ((szD shAdd x[k] : Nat) : Int) := by rcases hl2 with e | e; (· exact e.2); omega
          have h2 := HPT.out (k + 1)
          have := HSZ.out; have := HS.out; have := HY.out; have := HN.out
          omega)
        clear hl2
        go_wp2
        go_ret
        exact ⟨⟨-1, rfl, Or.inl ⟨rfl, HX.out⟩⟩, HB2.out⟩
      · have HE : Hid (l2 = y - ((szD shAdd x[k] : Nat) : Int)) := Hid.intro (by rcases hl2 with e | e; (· omega); exact e.2)
        have hl3 : 0 ≤ l2 ∧ l2 ≤ 1048576 := by have := HE.out; omega
        clear hl2
        go_wp2
        go_roundw
        case rel => exact ⟨k + 1, l2, by omega, by go_num, rfl, hl3.1, hl3.2, by rw [HS.out]; have := HE.out; have := HY.out; omega, HB2.out⟩
        case measure => simp [intOf]; omega
    · have hkn : k = n := by omega
      have HF : Hid (y = l - ((szD (.list shAdd) x : Nat) : Int)) := Hid.intro (by
        have h1 := HY.out
        rw [hkn, HN.out, List.take_length] at h1
        rw [h1, HSZ.out]
        omega)
      clear hkn
      have HB : Hid (Below w.heap.size w wr) := hBr
      clear hBr
      go_wp2
      go_ret
      exact ⟨⟨y, rfl, Or.inr ⟨hy0, HF.out⟩⟩, HB.out⟩
set_option maxRecDepth 100000 in
set_option maxHeartbeats 4000000 in
theorem szBag_n (cs : List Value) (x0 : List (Sh.T shAdd)) (x1 : List (Sh.T shAdd)) (l : Int) (w : World) (h0 : 0 ≤ l) (hl : l ≤ 1048576) (hf : Fits shBag (x0, x1, ())) (h : Lies w shBag cs (x0, x1, ())) :
    Calls Try.prog 50 #[.agg cs.toArray, .int .i64 l] w (SzP l (szD shBag (x0, x1, ())) w) := by
  obtain ⟨a1, k1, a2, k2, rfl, h1, h2⟩ := lies_Bag h
  have E : Hid (szD shBag (x0, x1, ()) = (szD (.list shAdd) x0 + (szD (.list shAdd) x1 + 0))) := rfl
  have HFI : Hid (Fits shBag (x0, x1, ())) := hf
  have HL : Hid (True ∧ Lies w (.list shAdd) [.slice a1 x0.length k1] x0 ∧ Lies w (.list shAdd) [.slice a2 x1.length k2] x1) := ⟨trivial, h1, h2⟩
  clear h hf h1 h2
  have HB0 : Hid (Bx (w.alloc (.cells #[.slice a1 x0.length k1, .slice a2 x1.length k2] 77)) w.heap.size [.slice a1 x0.length k1, .slice a2 x1.length k2] ∧ Below w.heap.size w (w.alloc (.cells #[.slice a1 x0.length k1, .slice a2 x1.length k2] 77))) := ⟨Bx.new w [.slice a1 x0.length k1, .slice a2 x1.length k2] _, Go.Joins.below_alloc1 _ _⟩
  go_enter Try.func50, Try.ntmps50
  have hl0 : 0 ≤ l ∧ l ≤ 1048576 := ⟨h0, hl⟩
  clear h0 hl
  obtain ⟨m0, hm0⟩ : ∃ y, y = l := ⟨_, rfl⟩
  have b0 : 0 ≤ m0 ∧ m0 ≤ 1048576 := by omega
  have HM0 : Hid (m0 = l) := hm0
  have d0 := HB0.out.1.cell 0 rfl
  have d1 := HB0.out.1.cell 1 rfl
  have dz := HB0.out.1.2
  go_wp2_with fail
  (try rw [← hm0])
  clear hm0 dz d0 d1
  refine (szAddS_n _ _ x0 m0 _ b0.1 b0.2 HFI.out.1 (HL.out.2.1.next HB0.out.2)).mono ?_
  rintro r w1 ⟨⟨r0, rfl, hr0⟩, hb⟩
  have HB1 : Hid (Bx w1 w.heap.size [.slice a1 x0.length k1, .slice a2 x1.length k2] ∧ Below w.heap.size w w1) := ⟨HB0.out.1.next hb, HB0.out.2.trans (hb.mono HB0.out.2.size)⟩
  clear hb HB0
  by_cases c0 : r0 < 0
  · have HN : Hid (l < ((szD shBag (x0, x1, ()) : Nat) : Int)) := Hid.intro (by rw [E.out]; have := HM0.out; omega)
    clear hr0
    go_wp2
    go_ret
    exact ⟨⟨-1, rfl, Or.inl ⟨rfl, HN.out⟩⟩, HB1.out.2⟩
  have HE0 : Hid (r0 = m0 - ((szD (.list shAdd) x0 : Nat) : Int)) := Hid.intro (by rcases hr0 with e | e; (· omega); exact e.2)
  have g0 : 0 ≤ r0 ∧ r0 ≤ 1048576 := by have := HE0.out; omega
  clear hr0
  obtain ⟨m1, hm1⟩ : ∃ y, y = r0 := ⟨_, rfl⟩
  have b1 : 0 ≤ m1 ∧ m1 ≤ 1048576 := by omega
  have HM1 : Hid (m1 = r0) := hm1
  have d0 := HB1.out.1.cell 0 rfl
  have d1 := HB1.out.1.cell 1 rfl
  have dz := HB1.out.1.2
  go_wp2_with fail
  (try rw [← hm1])
  clear hm1 dz d0 d1
  refine (szAddS_n _ _ x1 m1 _ b1.1 b1.2 HFI.out.2.1 (HL.out.2.2.next HB1.out.2)).mono ?_
  rintro r w2 ⟨⟨r1, rfl, hr1⟩, hb⟩
  have HB2 : Hid (Bx w2 w.heap.size [.slice a1 x0.length k1, .slice a2 x1.length k2] ∧ Below w.heap.size w w2) := ⟨HB1.out.1.next hb, HB1.out.2.trans (hb.mono HB1.out.2.size)⟩
  clear hb HB1
  by_cases c1 : r1 < 0
  · have HN : Hid (l < ((szD shBag (x0, x1, ()) : Nat) : Int)) := Hid.intro (by rw [E.out]; have := HE0.out; have := HM0.out; have := HM1.out; omega)
    clear hr1
    go_wp2
    go_ret
    exact ⟨⟨-1, rfl, Or.inl ⟨rfl, HN.out⟩⟩, HB2.out.2⟩
  have HE1 : Hid (r1 = m1 - ((szD (.list shAdd) x1 : Nat) : Int)) := Hid.intro (by rcases hr1 with e | e; (· omega); exact e.2)
  have g1 : 0 ≤ r1 ∧ r1 ≤ 1048576 := by have := HE1.out; omega
  clear hr1
  have d0 := HB2.out.1.cell 0 rfl
  have d1 := HB2.out.1.cell 1 rfl
  have dz := HB2.out.1.2
  go_wp2
  go_ret
  exact ⟨⟨_, rfl, Or.inr ⟨by omega, by rw [E.out]; have := HE0.out; have := HM0.out; have := HE1.out; have := HM1.out; omega⟩⟩, HB2.out.2⟩
end Go.Proofs.Ytnglgndocmkbfaa
