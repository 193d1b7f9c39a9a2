/- Sizes of this chapter's data, as the laws reckon them. Written by tools/nest.py. -/
import Derived.Test.YtaofolbnommpgaaMgA
import Derived.Test.YtaofolbnommpgaaProg
import Derived.WalkKit
import Derived.WalkSpells
import Derived.WalkLawsBesides
namespace Go.Proofs.Ytaofolbnommpgaa
open Go.RowKit
set_option linter.unusedVariables false
set_option linter.unusedSimpArgs false

set_option maxRecDepth 100000 in
set_option maxHeartbeats 4000000 in
theorem szCopy_n (cs : List Value) (x0 : Int) (x1 : Int) (x2 : ByteArray) (l : Int) (w : World) (h0 : 0 ≤ l) (hl : l ≤ 1048576) (hf : Fits shCopy (x0, x1, x2, ())) (h : Lies w shCopy cs (x0, x1, x2, ())) :
    Calls Try.prog 108 #[.agg cs.toArray, .int .i64 l] w (SzP l (szD shCopy (x0, x1, x2, ())) w) := by
  obtain rfl := lies_Copy h
  have E : Hid (szD shCopy (x0, x1, x2, ()) = (0 + (0 + (x2.size + 0)))) := rfl
  have HFI : Hid (Fits shCopy (x0, x1, x2, ())) := hf
  have HL : Hid True := trivial
  clear h hf
  have HB0 : Hid (Bx (w.alloc (.cells #[.int .i64 x0, .int .i64 x1, .string x2] 137)) w.heap.size [.int .i64 x0, .int .i64 x1, .string x2] ∧ Below w.heap.size w (w.alloc (.cells #[.int .i64 x0, .int .i64 x1, .string x2] 137))) := ⟨Bx.new w [.int .i64 x0, .int .i64 x1, .string x2] _, Go.Joins.below_alloc1 _ _⟩
  have s2 : x2.size ≤ 9223372036854775807 := (by have := HFI.out.2.2.1; unfold Fits maxLen at this; omega)
  go_enter Try.func108, Try.ntmps108
  have hl0 : 0 ≤ l ∧ l ≤ 1048576 := ⟨h0, hl⟩
  clear h0 hl
  by_cases c2 : (l - (x2.size : Int)) < 0
  · have HN : Hid (l < ((szD shCopy (x0, x1, x2, ()) : Nat) : Int)) := Hid.intro (by rw [E.out]; omega)
    go_wp2
    go_ret
    exact ⟨⟨-1, rfl, Or.inl ⟨rfl, HN.out⟩⟩, HB0.out.2⟩
  have d0 := HB0.out.1.cell 0 rfl
  have d1 := HB0.out.1.cell 1 rfl
  have d2 := HB0.out.1.cell 2 rfl
  have dz := HB0.out.1.2
  go_wp2
  go_ret
  exact ⟨⟨_, rfl, Or.inr ⟨by omega, by rw [E.out]; omega⟩⟩, HB0.out.2⟩
set_option maxRecDepth 100000 in
set_option maxHeartbeats 4000000 in
theorem szCopyS_n (a : Option Addr) (cap : Nat) (x : List (Sh.T shCopy)) (l : Int) (w : World) (h0 : 0 ≤ l) (hl : l ≤ 1048576) (hf : Fits (.list shCopy) x) (h : Lies w (.list shCopy) [.slice a x.length cap] x) :
    Calls Try.prog 79 #[.slice a x.length cap, .int .i64 l] w (SzP l (szD (.list shCopy) x) w) := by
  have hn : x.length ≤ 9223372036854775807 := by have := hf.1; unfold maxLen at this; omega
  have HL : Hid (Lies w (.list shCopy) [.slice a x.length cap] x ∧ Fits (.list shCopy) x) := ⟨h, hf⟩
  clear h hf
  have HSZ : Hid (szD (.list shCopy) x = x.length + (x.map (szD shCopy)).sum) := rfl
  have HPT : Hid (∀ k, ((x.take k).map (szD shCopy)).sum ≤ (x.map (szD shCopy)).sum) := sz_part x
  obtain ⟨n, hnn⟩ : ∃ n, n = x.length := ⟨_, rfl⟩
  have HN : Hid (n = x.length) := hnn
  rw [← hnn] at hn ⊢
  clear hnn
  by_cases c : l - (n : Int) < 0
  · have HX : Hid (l < ((szD (.list shCopy) x : Nat) : Int)) := Hid.intro (by rw [HSZ.out]; have := HN.out; omega)
    go_enter Try.func79, Try.ntmps79
    go_wp2
    go_ret
    exact ⟨⟨-1, rfl, Or.inl ⟨rfl, HX.out⟩⟩, Below.refl _ _⟩
  go_enter Try.func79, Try.ntmps79
  go_wp2
  go_loopw [1, 5] (fun q i wr => ∃ (k : Nat) (y : Int), k ≤ n ∧ i = .int .i64 k ∧ q = .int .i64 y ∧ 0 ≤ y ∧ y ≤ 1048576 ∧ y = l - (n : Int) - ((((x.take k).map (szD shCopy)).sum : Nat) : Int) ∧ Below w.heap.size w wr) (fun _ i _ => n - (intOf i).toNat)
  case atStart => exact ⟨0, _, Nat.zero_le _, rfl, rfl, by omega, by omega, by simp, Below.refl _ _⟩
  case round =>
    obtain ⟨k, y, hk, rfl, rfl, hy0, hy1, hys, hBr⟩ := hrel
    have HY : Hid (y = l - (n : Int) - ((((x.take k).map (szD shCopy)).sum : Nat) : Int)) := hys
    clear hys
    by_cases hlt : k < n
    · have hlx : k < x.length := by have := HN.out; omega
      obtain ⟨g, off, hgo, hgs, ec, hel, hec, hle⟩ := Lies.elem (HL.out.1.next hBr) hlx
      subst hgo
      have hlt' : (k : Int) < (n : Int) := by omega
      have HB : Hid (Below w.heap.size w wr) := hBr
      have HS : Hid (((x.take (k + 1)).map (szD shCopy)).sum = ((x.take k).map (szD shCopy)).sum + szD shCopy x[k]) := sz_take x k hlx
      have HCS : Hid (Lies wr shCopy ec x[k] ∧ Fits shCopy x[k]) := ⟨hle, HL.out.2.2 _ (List.getElem_mem hlx)⟩
      obtain ⟨v0, v1, v2, hev⟩ := list_of3 hel
      subst hev
      have c0 : wr.cell? ⟨g, off + k * 3, none⟩ = some v0 := hec 0 (by simp)
      have c1 : wr.cell? ⟨g, off + k * 3 + 1, none⟩ = some v1 := hec 1 (by simp)
      have c2 : wr.cell? ⟨g, off + k * 3 + 2, none⟩ = some v2 := hec 2 (by simp)
      clear hec hel hBr hle
      go_wp2_with fail
      refine (szCopy_n [v0, v1, v2] x[k].1 x[k].2.1 x[k].2.2.1 y _ hy0 hy1 HCS.out.2 HCS.out.1).mono ?_
      rintro r w2 ⟨⟨l2, rfl, hl2⟩, hb2⟩
      have HB2 : Hid (Below w.heap.size w w2) := HB.out.trans (hb2.mono HB.out.size)
      clear hb2 HB c0 c1 c2
      by_cases hy : l2 < 0
      · have HX : Hid (l < ((szD (.list shCopy) x : Nat) : Int)) := Hid.intro (by
          have h1 : y < ((szD shCopy x[k] : Nat) : Int) := by rcases hl2 with e | e; (· exact e.2); omega
          have h2 := HPT.out (k + 1)
          have := HSZ.out; have := HS.out; have := HY.out; have := HN.out
          omega)
        clear hl2
        go_wp2
        go_ret
        exact ⟨⟨-1, rfl, Or.inl ⟨rfl, HX.out⟩⟩, HB2.out⟩
      · have HE : Hid (l2 = y - ((szD shCopy x[k] : Nat) : Int)) := Hid.intro (by rcases hl2 with e | e; (· omega); exact e.2)
        have hl3 : 0 ≤ l2 ∧ l2 ≤ 1048576 := by have := HE.out; omega
        clear hl2
        go_wp2
        go_roundw
        case rel => exact ⟨k + 1, l2, by omega, by go_num, rfl, hl3.1, hl3.2, by rw [HS.out]; have := HE.out; have := HY.out; omega, HB2.out⟩
        case measure => simp [intOf]; omega
    · have hkn : k = n := by omega
      have HF : Hid (y = l - ((szD (.list shCopy) x : Nat) : Int)) := Hid.intro (by
        have h1 := HY.out
        rw [hkn, HN.out, List.take_length] at h1
        rw [h1, HSZ.out]
        omega)
      clear hkn
      have HB : Hid (Below w.heap.size w wr) := hBr
      clear hBr
      go_wp2
      go_ret
      exact ⟨⟨y, rfl, Or.inr ⟨hy0, HF.out⟩⟩, HB.out⟩
set_option maxRecDepth 100000 in
set_option maxHeartbeats 4000000 in
theorem szIntS_n (a : Option Addr) (cap : Nat) (x : List (Sh.T .int)) (l : Int) (w : World) (h0 : 0 ≤ l) (hl : l ≤ 1048576) (hf : Fits (.list .int) x) (h : Lies w (.list .int) [.slice a x.length cap] x) :
    Calls Try.prog 125 #[.slice a x.length cap, .int .i64 l] w (SzP l (szD (.list .int) x) w) := by
  have hn : x.length ≤ 9223372036854775807 := by have := hf.1; unfold maxLen at this; omega
  have E : Hid (szD (.list .int) x = x.length) := by show x.length + _ = _; rw [sum_zero (f := szD .int) (fun _ => rfl)]; rfl
  clear h hf
  by_cases c : l - (x.length : Int) < 0
  · have HN : Hid (l < ((szD (.list .int) x : Nat) : Int)) := Hid.intro (by rw [E.out]; omega)
    generalize x.length = n at *
    go_enter Try.func125, Try.ntmps125
    go_wp2
    go_ret
    exact ⟨⟨-1, rfl, Or.inl ⟨rfl, HN.out⟩⟩, Below.refl _ _⟩
  · generalize x.length = n at *
    go_enter Try.func125, Try.ntmps125
    go_wp2
    go_ret
    exact ⟨⟨_, rfl, Or.inr ⟨by omega, by rw [E.out]⟩⟩, Below.refl _ _⟩
set_option maxRecDepth 100000 in
set_option maxHeartbeats 4000000 in
theorem szRegOp_n (cs : List Value) (x0 : Int) (x1 : Bool) (x2 : ByteArray) (x3 : Int) (x4 : List (Sh.T .int)) (x5 : Int) (x6 : Int) (x7 : ByteArray) (x8 : Int) (x9 : Int) (l : Int) (w : World) (h0 : 0 ≤ l) (hl : l ≤ 1048576) (hf : Fits shRegOp (x0, x1, x2, x3, x4, (x5, x6, x7, ()), x8, x9, ())) (h : Lies w shRegOp cs (x0, x1, x2, x3, x4, (x5, x6, x7, ()), x8, x9, ())) :
    Calls Try.prog 109 #[.agg cs.toArray, .int .i64 l] w (SzP l (szD shRegOp (x0, x1, x2, x3, x4, (x5, x6, x7, ()), x8, x9, ())) w) := by
  obtain ⟨a1, k1, rfl, h1⟩ := lies_RegOp h
  have E : Hid (szD shRegOp (x0, x1, x2, x3, x4, (x5, x6, x7, ()), x8, x9, ()) = (0 + (0 + (x2.size + (0 + (szD (.list .int) x4 + (szD shCopy (x5, x6, x7, ()) + (0 + (0 + 0))))))))) := rfl
  have HFI : Hid (Fits shRegOp (x0, x1, x2, x3, x4, (x5, x6, x7, ()), x8, x9, ())) := hf
  have HL : Hid (True ∧ Lies w (.list .int) [.slice a1 x4.length k1] x4) := ⟨trivial, h1⟩
  clear h hf h1
  have HB0 : Hid (Bx (w.alloc (.cells #[.int .i64 x0, .bool x1, .string x2, .int .i64 x3, .slice a1 x4.length k1, .int .i64 x5, .int .i64 x6, .string x7, .int .i64 x8, .int .i64 x9] 140)) w.heap.size [.int .i64 x0, .bool x1, .string x2, .int .i64 x3, .slice a1 x4.length k1, .int .i64 x5, .int .i64 x6, .string x7, .int .i64 x8, .int .i64 x9] ∧ Below w.heap.size w (w.alloc (.cells #[.int .i64 x0, .bool x1, .string x2, .int .i64 x3, .slice a1 x4.length k1, .int .i64 x5, .int .i64 x6, .string x7, .int .i64 x8, .int .i64 x9] 140))) := ⟨Bx.new w [.int .i64 x0, .bool x1, .string x2, .int .i64 x3, .slice a1 x4.length k1, .int .i64 x5, .int .i64 x6, .string x7, .int .i64 x8, .int .i64 x9] _, Go.Joins.below_alloc1 _ _⟩
  have s2 : x2.size ≤ 9223372036854775807 := (by have := HFI.out.2.2.1; unfold Fits maxLen at this; omega)
  go_enter Try.func109, Try.ntmps109
  have hl0 : 0 ≤ l ∧ l ≤ 1048576 := ⟨h0, hl⟩
  clear h0 hl
  by_cases c2 : (l - (x2.size : Int)) < 0
  · have HN : Hid (l < ((szD shRegOp (x0, x1, x2, x3, x4, (x5, x6, x7, ()), x8, x9, ()) : Nat) : Int)) := Hid.intro (by rw [E.out]; omega)
    go_wp2
    go_ret
    exact ⟨⟨-1, rfl, Or.inl ⟨rfl, HN.out⟩⟩, HB0.out.2⟩
  obtain ⟨m4, hm4⟩ : ∃ y, y = (l - (x2.size : Int)) := ⟨_, rfl⟩
  have b4 : 0 ≤ m4 ∧ m4 ≤ 1048576 := by omega
  have HM4 : Hid (m4 = (l - (x2.size : Int))) := hm4
  have d0 := HB0.out.1.cell 0 rfl
  have d1 := HB0.out.1.cell 1 rfl
  have d2 := HB0.out.1.cell 2 rfl
  have d3 := HB0.out.1.cell 3 rfl
  have d4 := HB0.out.1.cell 4 rfl
  have d5 := HB0.out.1.cell 5 rfl
  have d6 := HB0.out.1.cell 6 rfl
  have d7 := HB0.out.1.cell 7 rfl
  have d8 := HB0.out.1.cell 8 rfl
  have d9 := HB0.out.1.cell 9 rfl
  have dz := HB0.out.1.2
  go_wp2_with fail
  (try rw [← hm4])
  clear hm4 dz d0 d1 d2 d3 d4 d5 d6 d7 d8 d9
  refine (szIntS_n _ _ x4 m4 _ b4.1 b4.2 HFI.out.2.2.2.2.1 (HL.out.2.next HB0.out.2)).mono ?_
  rintro r w1 ⟨⟨r4, rfl, hr4⟩, hb⟩
  have HB1 : Hid (Bx w1 w.heap.size [.int .i64 x0, .bool x1, .string x2, .int .i64 x3, .slice a1 x4.length k1, .int .i64 x5, .int .i64 x6, .string x7, .int .i64 x8, .int .i64 x9] ∧ Below w.heap.size w w1) := ⟨HB0.out.1.next hb, HB0.out.2.trans (hb.mono HB0.out.2.size)⟩
  clear hb HB0
  by_cases c4 : r4 < 0
  · have HN : Hid (l < ((szD shRegOp (x0, x1, x2, x3, x4, (x5, x6, x7, ()), x8, x9, ()) : Nat) : Int)) := Hid.intro (by rw [E.out]; have := HM4.out; omega)
    clear hr4
    go_wp2
    go_ret
    exact ⟨⟨-1, rfl, Or.inl ⟨rfl, HN.out⟩⟩, HB1.out.2⟩
  have HE4 : Hid (r4 = m4 - ((szD (.list .int) x4 : Nat) : Int)) := Hid.intro (by rcases hr4 with e | e; (· omega); exact e.2)
  have g4 : 0 ≤ r4 ∧ r4 ≤ 1048576 := by have := HE4.out; omega
  clear hr4
  obtain ⟨m5, hm5⟩ : ∃ y, y = r4 := ⟨_, rfl⟩
  have b5 : 0 ≤ m5 ∧ m5 ≤ 1048576 := by omega
  have HM5 : Hid (m5 = r4) := hm5
  have d0 := HB1.out.1.cell 0 rfl
  have d1 := HB1.out.1.cell 1 rfl
  have d2 := HB1.out.1.cell 2 rfl
  have d3 := HB1.out.1.cell 3 rfl
  have d4 := HB1.out.1.cell 4 rfl
  have d5 := HB1.out.1.cell 5 rfl
  have d6 := HB1.out.1.cell 6 rfl
  have d7 := HB1.out.1.cell 7 rfl
  have d8 := HB1.out.1.cell 8 rfl
  have d9 := HB1.out.1.cell 9 rfl
  have dz := HB1.out.1.2
  go_wp2_with fail
  (try rw [← hm5])
  clear hm5 dz d0 d1 d2 d3 d4 d5 d6 d7 d8 d9
  refine (szCopy_n [.int .i64 x5, .int .i64 x6, .string x7] x5 x6 x7 m5 _ b5.1 b5.2 HFI.out.2.2.2.2.2.1 (mk_Copy)).mono ?_
  rintro r w2 ⟨⟨r5, rfl, hr5⟩, hb⟩
  have HB2 : Hid (Bx w2 w.heap.size [.int .i64 x0, .bool x1, .string x2, .int .i64 x3, .slice a1 x4.length k1, .int .i64 x5, .int .i64 x6, .string x7, .int .i64 x8, .int .i64 x9] ∧ Below w.heap.size w w2) := ⟨HB1.out.1.next hb, HB1.out.2.trans (hb.mono HB1.out.2.size)⟩
  clear hb HB1
  by_cases c5 : r5 < 0
  · have HN : Hid (l < ((szD shRegOp (x0, x1, x2, x3, x4, (x5, x6, x7, ()), x8, x9, ()) : Nat) : Int)) := Hid.intro (by rw [E.out]; have := HE4.out; have := HM4.out; have := HM5.out; omega)
    clear hr5
    go_wp2
    go_ret
    exact ⟨⟨-1, rfl, Or.inl ⟨rfl, HN.out⟩⟩, HB2.out.2⟩
  have HE5 : Hid (r5 = m5 - ((szD shCopy (x5, x6, x7, ()) : Nat) : Int)) := Hid.intro (by rcases hr5 with e | e; (· omega); exact e.2)
  have g5 : 0 ≤ r5 ∧ r5 ≤ 1048576 := by have := HE5.out; omega
  clear hr5
  have d0 := HB2.out.1.cell 0 rfl
  have d1 := HB2.out.1.cell 1 rfl
  have d2 := HB2.out.1.cell 2 rfl
  have d3 := HB2.out.1.cell 3 rfl
  have d4 := HB2.out.1.cell 4 rfl
  have d5 := HB2.out.1.cell 5 rfl
  have d6 := HB2.out.1.cell 6 rfl
  have d7 := HB2.out.1.cell 7 rfl
  have d8 := HB2.out.1.cell 8 rfl
  have d9 := HB2.out.1.cell 9 rfl
  have dz := HB2.out.1.2
  go_wp2
  go_ret
  exact ⟨⟨_, rfl, Or.inr ⟨by omega, by rw [E.out]; have := HE4.out; have := HM4.out; have := HE5.out; have := HM5.out; omega⟩⟩, HB2.out.2⟩
set_option maxRecDepth 100000 in
set_option maxHeartbeats 4000000 in
theorem szRegOpS_n (a : Option Addr) (cap : Nat) (x : List (Sh.T shRegOp)) (l : Int) (w : World) (h0 : 0 ≤ l) (hl : l ≤ 1048576) (hf : Fits (.list shRegOp) x) (h : Lies w (.list shRegOp) [.slice a x.length cap] x) :
    Calls Try.prog 80 #[.slice a x.length cap, .int .i64 l] w (SzP l (szD (.list shRegOp) x) w) := by
  have hn : x.length ≤ 9223372036854775807 := by have := hf.1; unfold maxLen at this; omega
  have HL : Hid (Lies w (.list shRegOp) [.slice a x.length cap] x ∧ Fits (.list shRegOp) x) := ⟨h, hf⟩
  clear h hf
  have HSZ : Hid (szD (.list shRegOp) x = x.length + (x.map (szD shRegOp)).sum) := rfl
  have HPT : Hid (∀ k, ((x.take k).map (szD shRegOp)).sum ≤ (x.map (szD shRegOp)).sum) := sz_part x
  obtain ⟨n, hnn⟩ : ∃ n, n = x.length := ⟨_, rfl⟩
  have HN : Hid (n = x.length) := hnn
  rw [← hnn] at hn ⊢
  clear hnn
  by_cases c : l - (n : Int) < 0
  · have HX : Hid (l < ((szD (.list shRegOp) x : Nat) : Int)) := Hid.intro (by rw [HSZ.out]; have := HN.out; omega)
    go_enter Try.func80, Try.ntmps80
    go_wp2
    go_ret
    exact ⟨⟨-1, rfl, Or.inl ⟨rfl, HX.out⟩⟩, Below.refl _ _⟩
  go_enter Try.func80, Try.ntmps80
  go_wp2
  go_loopw [1, 5] (fun q i wr => ∃ (k : Nat) (y : Int), k ≤ n ∧ i = .int .i64 k ∧ q = .int .i64 y ∧ 0 ≤ y ∧ y ≤ 1048576 ∧ y = l - (n : Int) - ((((x.take k).map (szD shRegOp)).sum : Nat) : Int) ∧ Below w.heap.size w wr) (fun _ i _ => n - (intOf i).toNat)
  case atStart => exact ⟨0, _, Nat.zero_le _, rfl, rfl, by omega, by omega, by simp, Below.refl _ _⟩
  case round =>
    obtain ⟨k, y, hk, rfl, rfl, hy0, hy1, hys, hBr⟩ := hrel
    have HY : Hid (y = l - (n : Int) - ((((x.take k).map (szD shRegOp)).sum : Nat) : Int)) := hys
    clear hys
    by_cases hlt : k < n
    · have hlx : k < x.length := by have := HN.out; omega
      obtain ⟨g, off, hgo, hgs, ec, hel, hec, hle⟩ := Lies.elem (HL.out.1.next hBr) hlx
      subst hgo
      have hlt' : (k : Int) < (n : Int) := by omega
      have HB : Hid (Below w.heap.size w wr) := hBr
      have HS : Hid (((x.take (k + 1)).map (szD shRegOp)).sum = ((x.take k).map (szD shRegOp)).sum + szD shRegOp x[k]) := sz_take x k hlx
      have HCS : Hid (Lies wr shRegOp ec x[k] ∧ Fits shRegOp x[k]) := ⟨hle, HL.out.2.2 _ (List.getElem_mem hlx)⟩
      obtain ⟨v0, v1, v2, v3, v4, v5, v6, v7, v8, v9, hev⟩ := list_of10 hel
      subst hev
      have c0 : wr.cell? ⟨g, off + k * 10, none⟩ = some v0 := hec 0 (by simp)
      have c1 : wr.cell? ⟨g, off + k * 10 + 1, none⟩ = some v1 := hec 1 (by simp)
      have c2 : wr.cell? ⟨g, off + k * 10 + 2, none⟩ = some v2 := hec 2 (by simp)
      have c3 : wr.cell? ⟨g, off + k * 10 + 3, none⟩ = some v3 := hec 3 (by simp)
      have c4 : wr.cell? ⟨g, off + k * 10 + 4, none⟩ = some v4 := hec 4 (by simp)
      have c5 : wr.cell? ⟨g, off + k * 10 + 5, none⟩ = some v5 := hec 5 (by simp)
      have c6 : wr.cell? ⟨g, off + k * 10 + 6, none⟩ = some v6 := hec 6 (by simp)
      have c7 : wr.cell? ⟨g, off + k * 10 + 7, none⟩ = some v7 := hec 7 (by simp)
      have c8 : wr.cell? ⟨g, off + k * 10 + 8, none⟩ = some v8 := hec 8 (by simp)
      have c9 : wr.cell? ⟨g, off + k * 10 + 9, none⟩ = some v9 := hec 9 (by simp)
      clear hec hel hBr hle
      go_wp2_with fail
      refine (szRegOp_n [v0, v1, v2, v3, v4, v5, v6, v7, v8, v9] x[k].1 x[k].2.1 x[k].2.2.1 x[k].2.2.2.1 x[k].2.2.2.2.1 x[k].2.2.2.2.2.1.1 x[k].2.2.2.2.2.1.2.1 x[k].2.2.2.2.2.1.2.2.1 x[k].2.2.2.2.2.2.1 x[k].2.2.2.2.2.2.2.1 y _ hy0 hy1 HCS.out.2 HCS.out.1).mono ?_
      rintro r w2 ⟨⟨l2, rfl, hl2⟩, hb2⟩
      have HB2 : Hid (Below w.heap.size w w2) := HB.out.trans (hb2.mono HB.out.size)
      clear hb2 HB c0 c1 c2 c3 c4 c5 c6 c7 c8 c9
      by_cases hy : l2 < 0
      · have HX : Hid (l < ((szD (.list shRegOp) x : Nat) : Int)) := Hid.intro (by
          have h1 : y < ((szD shRegOp x[k] : Nat) : Int) := by rcases hl2 with e | e; (· exact e.2); omega
          have h2 := HPT.out (k + 1)
          have := HSZ.out; have := HS.out; have := HY.out; have := HN.out
          omega)
        clear hl2
        go_wp2
        go_ret
        exact ⟨⟨-1, rfl, Or.inl ⟨rfl, HX.out⟩⟩, HB2.out⟩
      · have HE : Hid (l2 = y - ((szD shRegOp x[k] : Nat) : Int)) := Hid.intro (by rcases hl2 with e | e; (· omega); exact e.2)
        have hl3 : 0 ≤ l2 ∧ l2 ≤ 1048576 := by have := HE.out; omega
        clear hl2
        go_wp2
        go_roundw
        case rel => exact ⟨k + 1, l2, by omega, by go_num, rfl, hl3.1, hl3.2, by rw [HS.out]; have := HE.out; have := HY.out; omega, HB2.out⟩
        case measure => simp [intOf]; omega
    · have hkn : k = n := by omega
      have HF : Hid (y = l - ((szD (.list shRegOp) x : Nat) : Int)) := Hid.intro (by
        have h1 := HY.out
        rw [hkn, HN.out, List.take_length] at h1
        rw [h1, HSZ.out]
        omega)
      clear hkn
      have HB : Hid (Below w.heap.size w wr) := hBr
      clear hBr
      go_wp2
      go_ret
      exact ⟨⟨y, rfl, Or.inr ⟨hy0, HF.out⟩⟩, HB.out⟩
set_option maxRecDepth 100000 in
set_option maxHeartbeats 4000000 in
theorem szRegister_n (cs : List Value) (x0 : Int) (x1 : List (Sh.T shCopy)) (x2 : List (Sh.T shRegOp)) (l : Int) (w : World) (h0 : 0 ≤ l) (hl : l ≤ 1048576) (hf : Fits shRegister (x0, x1, x2, ())) (h : Lies w shRegister cs (x0, x1, x2, ())) :
    Calls Try.prog 28 #[.agg cs.toArray, .int .i64 l] w (SzP l (szD shRegister (x0, x1, x2, ())) w) := by
  obtain ⟨a1, k1, a2, k2, rfl, h1, h2⟩ := lies_Register h
  have E : Hid (szD shRegister (x0, x1, x2, ()) = (0 + (szD (.list shCopy) x1 + (szD (.list shRegOp) x2 + 0)))) := rfl
  have HFI : Hid (Fits shRegister (x0, x1, x2, ())) := hf
  have HL : Hid (True ∧ Lies w (.list shCopy) [.slice a1 x1.length k1] x1 ∧ Lies w (.list shRegOp) [.slice a2 x2.length k2] x2) := ⟨trivial, h1, h2⟩
  clear h hf h1 h2
  have HB0 : Hid (Bx (w.alloc (.cells #[.int .i64 x0, .slice a1 x1.length k1, .slice a2 x2.length k2] 62)) w.heap.size [.int .i64 x0, .slice a1 x1.length k1, .slice a2 x2.length k2] ∧ Below w.heap.size w (w.alloc (.cells #[.int .i64 x0, .slice a1 x1.length k1, .slice a2 x2.length k2] 62))) := ⟨Bx.new w [.int .i64 x0, .slice a1 x1.length k1, .slice a2 x2.length k2] _, Go.Joins.below_alloc1 _ _⟩
  go_enter Try.func28, Try.ntmps28
  have hl0 : 0 ≤ l ∧ l ≤ 1048576 := ⟨h0, hl⟩
  clear h0 hl
  obtain ⟨m1, hm1⟩ : ∃ y, y = l := ⟨_, rfl⟩
  have b1 : 0 ≤ m1 ∧ m1 ≤ 1048576 := by omega
  have HM1 : Hid (m1 = l) := hm1
  have d0 := HB0.out.1.cell 0 rfl
  have d1 := HB0.out.1.cell 1 rfl
  have d2 := HB0.out.1.cell 2 rfl
  have dz := HB0.out.1.2
  go_wp2_with fail
  (try rw [← hm1])
  clear hm1 dz d0 d1 d2
  refine (szCopyS_n _ _ x1 m1 _ b1.1 b1.2 HFI.out.2.1 (HL.out.2.1.next HB0.out.2)).mono ?_
  rintro r w1 ⟨⟨r1, rfl, hr1⟩, hb⟩
  have HB1 : Hid (Bx w1 w.heap.size [.int .i64 x0, .slice a1 x1.length k1, .slice a2 x2.length k2] ∧ Below w.heap.size w w1) := ⟨HB0.out.1.next hb, HB0.out.2.trans (hb.mono HB0.out.2.size)⟩
  clear hb HB0
  by_cases c1 : r1 < 0
  · have HN : Hid (l < ((szD shRegister (x0, x1, x2, ()) : Nat) : Int)) := Hid.intro (by rw [E.out]; have := HM1.out; omega)
    clear hr1
    go_wp2
    go_ret
    exact ⟨⟨-1, rfl, Or.inl ⟨rfl, HN.out⟩⟩, HB1.out.2⟩
  have HE1 : Hid (r1 = m1 - ((szD (.list shCopy) x1 : Nat) : Int)) := Hid.intro (by rcases hr1 with e | e; (· omega); exact e.2)
  have g1 : 0 ≤ r1 ∧ r1 ≤ 1048576 := by have := HE1.out; omega
  clear hr1
  obtain ⟨m2, hm2⟩ : ∃ y, y = r1 := ⟨_, rfl⟩
  have b2 : 0 ≤ m2 ∧ m2 ≤ 1048576 := by omega
  have HM2 : Hid (m2 = r1) := hm2
  have d0 := HB1.out.1.cell 0 rfl
  have d1 := HB1.out.1.cell 1 rfl
  have d2 := HB1.out.1.cell 2 rfl
  have dz := HB1.out.1.2
  go_wp2_with fail
  (try rw [← hm2])
  clear hm2 dz d0 d1 d2
  refine (szRegOpS_n _ _ x2 m2 _ b2.1 b2.2 HFI.out.2.2.1 (HL.out.2.2.next HB1.out.2)).mono ?_
  rintro r w2 ⟨⟨r2, rfl, hr2⟩, hb⟩
  have HB2 : Hid (Bx w2 w.heap.size [.int .i64 x0, .slice a1 x1.length k1, .slice a2 x2.length k2] ∧ Below w.heap.size w w2) := ⟨HB1.out.1.next hb, HB1.out.2.trans (hb.mono HB1.out.2.size)⟩
  clear hb HB1
  by_cases c2 : r2 < 0
  · have HN : Hid (l < ((szD shRegister (x0, x1, x2, ()) : Nat) : Int)) := Hid.intro (by rw [E.out]; have := HE1.out; have := HM1.out; have := HM2.out; omega)
    clear hr2
    go_wp2
    go_ret
    exact ⟨⟨-1, rfl, Or.inl ⟨rfl, HN.out⟩⟩, HB2.out.2⟩
  have HE2 : Hid (r2 = m2 - ((szD (.list shRegOp) x2 : Nat) : Int)) := Hid.intro (by rcases hr2 with e | e; (· omega); exact e.2)
  have g2 : 0 ≤ r2 ∧ r2 ≤ 1048576 := by have := HE2.out; omega
  clear hr2
  have d0 := HB2.out.1.cell 0 rfl
  have d1 := HB2.out.1.cell 1 rfl
  have d2 := HB2.out.1.cell 2 rfl
  have dz := HB2.out.1.2
  go_wp2
  go_ret
  exact ⟨⟨_, rfl, Or.inr ⟨by omega, by rw [E.out]; have := HE1.out; have := HM1.out; have := HE2.out; have := HM2.out; omega⟩⟩, HB2.out.2⟩
set_option maxRecDepth 100000 in
set_option maxHeartbeats 4000000 in
theorem szRegStep_n (cs : List Value) (x0 : Bool) (x1 : Int) (x2 : Bool) (x3 : ByteArray) (x4 : Int) (x5 : Int) (l : Int) (w : World) (h0 : 0 ≤ l) (hl : l ≤ 1048576) (hf : Fits shRegStep (x0, x1, x2, x3, x4, x5, ())) (h : Lies w shRegStep cs (x0, x1, x2, x3, x4, x5, ())) :
    Calls Try.prog 30 #[.agg cs.toArray, .int .i64 l] w (SzP l (szD shRegStep (x0, x1, x2, x3, x4, x5, ())) w) := by
  obtain rfl := lies_RegStep h
  have E : Hid (szD shRegStep (x0, x1, x2, x3, x4, x5, ()) = (0 + (0 + (0 + (x3.size + (0 + (0 + 0))))))) := rfl
  have HFI : Hid (Fits shRegStep (x0, x1, x2, x3, x4, x5, ())) := hf
  have HL : Hid True := trivial
  clear h hf
  have HB0 : Hid (Bx (w.alloc (.cells #[.bool x0, .int .i64 x1, .bool x2, .string x3, .int .i64 x4, .int .i64 x5] 66)) w.heap.size [.bool x0, .int .i64 x1, .bool x2, .string x3, .int .i64 x4, .int .i64 x5] ∧ Below w.heap.size w (w.alloc (.cells #[.bool x0, .int .i64 x1, .bool x2, .string x3, .int .i64 x4, .int .i64 x5] 66))) := ⟨Bx.new w [.bool x0, .int .i64 x1, .bool x2, .string x3, .int .i64 x4, .int .i64 x5] _, Go.Joins.below_alloc1 _ _⟩
  have s3 : x3.size ≤ 9223372036854775807 := (by have := HFI.out.2.2.2.1; unfold Fits maxLen at this; omega)
  go_enter Try.func30, Try.ntmps30
  have hl0 : 0 ≤ l ∧ l ≤ 1048576 := ⟨h0, hl⟩
  clear h0 hl
  by_cases c3 : (l - (x3.size : Int)) < 0
  · have HN : Hid (l < ((szD shRegStep (x0, x1, x2, x3, x4, x5, ()) : Nat) : Int)) := Hid.intro (by rw [E.out]; omega)
    go_wp2
    go_ret
    exact ⟨⟨-1, rfl, Or.inl ⟨rfl, HN.out⟩⟩, HB0.out.2⟩
  have d0 := HB0.out.1.cell 0 rfl
  have d1 := HB0.out.1.cell 1 rfl
  have d2 := HB0.out.1.cell 2 rfl
  have d3 := HB0.out.1.cell 3 rfl
  have d4 := HB0.out.1.cell 4 rfl
  have d5 := HB0.out.1.cell 5 rfl
  have dz := HB0.out.1.2
  go_wp2
  go_ret
  exact ⟨⟨_, rfl, Or.inr ⟨by omega, by rw [E.out]; omega⟩⟩, HB0.out.2⟩
end Go.Proofs.Ytaofolbnommpgaa
