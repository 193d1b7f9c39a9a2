/- Sizes of this chapter's data, as the laws reckon them. Written by tools/nest.py. -/
import Derived.Test.YtcbdlalpnlahcaaNtS
import Derived.Test.YtcbdlalpnlahcaaProg
import Derived.Test.YtcbdlalpnlahcaaMgA
import Derived.WalkKit
import Derived.WalkSpells
import Derived.WalkLawsBesides
namespace Go.Proofs.Ytcbdlalpnlahcaa
open Go.RowKit
set_option linter.unusedVariables false
set_option linter.unusedSimpArgs false

set_option maxRecDepth 100000 in
set_option maxHeartbeats 4000000 in
theorem szIntS_n (a : Option Addr) (cap : Nat) (x : List (Sh.T .int)) (l : Int) (w : World) (h0 : 0 ≤ l) (hl : l ≤ 1048576) (hf : Fits (.list .int) x) (h : Lies w (.list .int) [.slice a x.length cap] x) :
    Calls Try.prog 56 #[.slice a x.length cap, .int .i64 l] w (SzP l (szD (.list .int) x) w) := by
  have hn : x.length ≤ 9223372036854775807 := by have := hf.1; unfold maxLen at this; omega
  have E : Hid (szD (.list .int) x = x.length) := by show x.length + _ = _; rw [sum_zero (f := szD .int) (fun _ => rfl)]; rfl
  clear h hf
  by_cases c : l - (x.length : Int) < 0
  · have HN : Hid (l < ((szD (.list .int) x : Nat) : Int)) := Hid.intro (by rw [E.out]; omega)
    generalize x.length = n at *
    go_enter Try.func56, Try.ntmps56
    go_wp2
    go_ret
    exact ⟨⟨-1, rfl, Or.inl ⟨rfl, HN.out⟩⟩, Below.refl _ _⟩
  · generalize x.length = n at *
    go_enter Try.func56, Try.ntmps56
    go_wp2
    go_ret
    exact ⟨⟨_, rfl, Or.inr ⟨by omega, by rw [E.out]⟩⟩, Below.refl _ _⟩
set_option maxRecDepth 100000 in
set_option maxHeartbeats 4000000 in
theorem szMember_n (cs : List Value) (x0 : Int) (x1 : Int) (x2 : List (Sh.T .int)) (x3 : Int) (l : Int) (w : World) (h0 : 0 ≤ l) (hl : l ≤ 1048576) (hf : Fits shMember (x0, x1, x2, x3, ())) (h : Lies w shMember cs (x0, x1, x2, x3, ())) :
    Calls Try.prog 74 #[.agg cs.toArray, .int .i64 l] w (SzP l (szD shMember (x0, x1, x2, x3, ())) w) := by
  obtain ⟨a1, k1, rfl, h1⟩ := lies_Member h
  have E : Hid (szD shMember (x0, x1, x2, x3, ()) = (0 + (0 + (szD (.list .int) x2 + (0 + 0))))) := rfl
  have HFI : Hid (Fits shMember (x0, x1, x2, x3, ())) := hf
  have HL : Hid (True ∧ Lies w (.list .int) [.slice a1 x2.length k1] x2) := ⟨trivial, h1⟩
  clear h hf h1
  have HB0 : Hid (Bx (w.alloc (.cells #[.int .i64 x0, .int .i64 x1, .slice a1 x2.length k1, .int .i64 x3] 100)) w.heap.size [.int .i64 x0, .int .i64 x1, .slice a1 x2.length k1, .int .i64 x3] ∧ Below w.heap.size w (w.alloc (.cells #[.int .i64 x0, .int .i64 x1, .slice a1 x2.length k1, .int .i64 x3] 100))) := ⟨Bx.new w [.int .i64 x0, .int .i64 x1, .slice a1 x2.length k1, .int .i64 x3] _, Go.Joins.below_alloc1 _ _⟩
  go_enter Try.func74, Try.ntmps74
  have hl0 : 0 ≤ l ∧ l ≤ 1048576 := ⟨h0, hl⟩
  clear h0 hl
  obtain ⟨m2, hm2⟩ : ∃ y, y = l := ⟨_, rfl⟩
  have b2 : 0 ≤ m2 ∧ m2 ≤ 1048576 := by omega
  have HM2 : Hid (m2 = l) := hm2
  have d0 := HB0.out.1.cell 0 rfl
  have d1 := HB0.out.1.cell 1 rfl
  have d2 := HB0.out.1.cell 2 rfl
  have d3 := HB0.out.1.cell 3 rfl
  have dz := HB0.out.1.2
  go_wp2_with fail
  (try rw [← hm2])
  clear hm2 dz d0 d1 d2 d3
  refine (szIntS_n _ _ x2 m2 _ b2.1 b2.2 HFI.out.2.2.1 (HL.out.2.next HB0.out.2)).mono ?_
  rintro r w1 ⟨⟨r2, rfl, hr2⟩, hb⟩
  have HB1 : Hid (Bx w1 w.heap.size [.int .i64 x0, .int .i64 x1, .slice a1 x2.length k1, .int .i64 x3] ∧ Below w.heap.size w w1) := ⟨HB0.out.1.next hb, HB0.out.2.trans (hb.mono HB0.out.2.size)⟩
  clear hb HB0
  by_cases c2 : r2 < 0
  · have HN : Hid (l < ((szD shMember (x0, x1, x2, x3, ()) : Nat) : Int)) := Hid.intro (by rw [E.out]; have := HM2.out; omega)
    clear hr2
    go_wp2
    go_ret
    exact ⟨⟨-1, rfl, Or.inl ⟨rfl, HN.out⟩⟩, HB1.out.2⟩
  have HE2 : Hid (r2 = m2 - ((szD (.list .int) x2 : Nat) : Int)) := Hid.intro (by rcases hr2 with e | e; (· omega); exact e.2)
  have g2 : 0 ≤ r2 ∧ r2 ≤ 1048576 := by have := HE2.out; omega
  clear hr2
  have d0 := HB1.out.1.cell 0 rfl
  have d1 := HB1.out.1.cell 1 rfl
  have d2 := HB1.out.1.cell 2 rfl
  have d3 := HB1.out.1.cell 3 rfl
  have dz := HB1.out.1.2
  go_wp2
  go_ret
  exact ⟨⟨_, rfl, Or.inr ⟨by omega, by rw [E.out]; have := HE2.out; have := HM2.out; omega⟩⟩, HB1.out.2⟩
set_option maxRecDepth 100000 in
set_option maxHeartbeats 4000000 in
theorem szMemberS_n (a : Option Addr) (cap : Nat) (x : List (Sh.T shMember)) (l : Int) (w : World) (h0 : 0 ≤ l) (hl : l ≤ 1048576) (hf : Fits (.list shMember) x) (h : Lies w (.list shMember) [.slice a x.length cap] x) :
    Calls Try.prog 55 #[.slice a x.length cap, .int .i64 l] w (SzP l (szD (.list shMember) x) w) := by
  have hn : x.length ≤ 9223372036854775807 := by have := hf.1; unfold maxLen at this; omega
  have HL : Hid (Lies w (.list shMember) [.slice a x.length cap] x ∧ Fits (.list shMember) x) := ⟨h, hf⟩
  clear h hf
  have HSZ : Hid (szD (.list shMember) x = x.length + (x.map (szD shMember)).sum) := rfl
  have HPT : Hid (∀ k, ((x.take k).map (szD shMember)).sum ≤ (x.map (szD shMember)).sum) := sz_part x
  obtain ⟨n, hnn⟩ : ∃ n, n = x.length := ⟨_, rfl⟩
  have HN : Hid (n = x.length) := hnn
  rw [← hnn] at hn ⊢
  clear hnn
  by_cases c : l - (n : Int) < 0
  · have HX : Hid (l < ((szD (.list shMember) x : Nat) : Int)) := Hid.intro (by rw [HSZ.out]; have := HN.out; omega)
    go_enter Try.func55, Try.ntmps55
    go_wp2
    go_ret
    exact ⟨⟨-1, rfl, Or.inl ⟨rfl, HX.out⟩⟩, Below.refl _ _⟩
  go_enter Try.func55, Try.ntmps55
  go_wp2
  go_loopw [1, 5] (fun q i wr => ∃ (k : Nat) (y : Int), k ≤ n ∧ i = .int .i64 k ∧ q = .int .i64 y ∧ 0 ≤ y ∧ y ≤ 1048576 ∧ y = l - (n : Int) - ((((x.take k).map (szD shMember)).sum : Nat) : Int) ∧ Below w.heap.size w wr) (fun _ i _ => n - (intOf i).toNat)
  case atStart => exact ⟨0, _, Nat.zero_le _, rfl, rfl, by omega, by omega, by simp, Below.refl _ _⟩
  case round =>
    obtain ⟨k, y, hk, rfl, rfl, hy0, hy1, hys, hBr⟩ := hrel
    have HY : Hid (y = l - (n : Int) - ((((x.take k).map (szD shMember)).sum : Nat) : Int)) := hys
    clear hys
    by_cases hlt : k < n
    · have hlx : k < x.length := by have := HN.out; omega
      obtain ⟨g, off, hgo, hgs, ec, hel, hec, hle⟩ := Lies.elem (HL.out.1.next hBr) hlx
      subst hgo
      have hlt' : (k : Int) < (n : Int) := by omega
      have HB : Hid (Below w.heap.size w wr) := hBr
      have HS : Hid (((x.take (k + 1)).map (szD shMember)).sum = ((x.take k).map (szD shMember)).sum + szD shMember x[k]) := sz_take x k hlx
      have HCS : Hid (Lies wr shMember ec x[k] ∧ Fits shMember x[k]) := ⟨hle, HL.out.2.2 _ (List.getElem_mem hlx)⟩
      obtain ⟨v0, v1, v2, v3, hev⟩ := list_of4 hel
      subst hev
      have c0 : wr.cell? ⟨g, off + k * 4, none⟩ = some v0 := hec 0 (by simp)
      have c1 : wr.cell? ⟨g, off + k * 4 + 1, none⟩ = some v1 := hec 1 (by simp)
      have c2 : wr.cell? ⟨g, off + k * 4 + 2, none⟩ = some v2 := hec 2 (by simp)
      have c3 : wr.cell? ⟨g, off + k * 4 + 3, none⟩ = some v3 := hec 3 (by simp)
      clear hec hel hBr hle
      go_wp2_with fail
      refine (szMember_n [v0, v1, v2, v3] x[k].1 x[k].2.1 x[k].2.2.1 x[k].2.2.2.1 y _ hy0 hy1 HCS.out.2 HCS.out.1).mono ?_
      rintro r w2 ⟨⟨l2, rfl, hl2⟩, hb2⟩
      have HB2 : Hid (Below w.heap.size w w2) := HB.out.trans (hb2.mono HB.out.size)
      clear hb2 HB c0 c1 c2 c3
      by_cases hy : l2 < 0
      · have HX : Hid (l < ((szD (.list shMember) x : Nat) : Int)) := Hid.intro (by
          have h1 : y < ((szD shMember x[k] : Nat) : Int) := by rcases hl2 with e | e; (· exact e.2); omega
          have h2 := HPT.out (k + 1)
          have := HSZ.out; have := HS.out; have := HY.out; have := HN.out
          omega)
        clear hl2
        go_wp2
        go_ret
        exact ⟨⟨-1, rfl, Or.inl ⟨rfl, HX.out⟩⟩, HB2.out⟩
      · have HE : Hid (l2 = y - ((szD shMember x[k] : Nat) : Int)) := Hid.intro (by rcases hl2 with e | e; (· omega); exact e.2)
        have hl3 : 0 ≤ l2 ∧ l2 ≤ 1048576 := by have := HE.out; omega
        clear hl2
        go_wp2
        go_roundw
        case rel => exact ⟨k + 1, l2, by omega, by go_num, rfl, hl3.1, hl3.2, by rw [HS.out]; have := HE.out; have := HY.out; omega, HB2.out⟩
        case measure => simp [intOf]; omega
    · have hkn : k = n := by omega
      have HF : Hid (y = l - ((szD (.list shMember) x : Nat) : Int)) := Hid.intro (by
        have h1 := HY.out
        rw [hkn, HN.out, List.take_length] at h1
        rw [h1, HSZ.out]
        omega)
      clear hkn
      have HB : Hid (Below w.heap.size w wr) := hBr
      clear hBr
      go_wp2
      go_ret
      exact ⟨⟨y, rfl, Or.inr ⟨hy0, HF.out⟩⟩, HB.out⟩
set_option maxRecDepth 100000 in
set_option maxHeartbeats 4000000 in
theorem szFence_n (cs : List Value) (x0 : Int) (x1 : Int) (x2 : List (Sh.T shMember)) (x3 : List (Sh.T .int)) (l : Int) (w : World) (h0 : 0 ≤ l) (hl : l ≤ 1048576) (hf : Fits shFence (x0, x1, x2, x3, ())) (h : Lies w shFence cs (x0, x1, x2, x3, ())) :
    Calls Try.prog 29 #[.agg cs.toArray, .int .i64 l] w (SzP l (szD shFence (x0, x1, x2, x3, ())) w) := by
  obtain ⟨a1, k1, a2, k2, rfl, h1, h2⟩ := lies_Fence h
  have E : Hid (szD shFence (x0, x1, x2, x3, ()) = (0 + (0 + (szD (.list shMember) x2 + (szD (.list .int) x3 + 0))))) := rfl
  have HFI : Hid (Fits shFence (x0, x1, x2, x3, ())) := hf
  have HL : Hid (True ∧ Lies w (.list shMember) [.slice a1 x2.length k1] x2 ∧ Lies w (.list .int) [.slice a2 x3.length k2] x3) := ⟨trivial, h1, h2⟩
  clear h hf h1 h2
  have HB0 : Hid (Bx (w.alloc (.cells #[.int .i64 x0, .int .i64 x1, .slice a1 x2.length k1, .slice a2 x3.length k2] 51)) w.heap.size [.int .i64 x0, .int .i64 x1, .slice a1 x2.length k1, .slice a2 x3.length k2] ∧ Below w.heap.size w (w.alloc (.cells #[.int .i64 x0, .int .i64 x1, .slice a1 x2.length k1, .slice a2 x3.length k2] 51))) := ⟨Bx.new w [.int .i64 x0, .int .i64 x1, .slice a1 x2.length k1, .slice a2 x3.length k2] _, Go.Joins.below_alloc1 _ _⟩
  go_enter Try.func29, Try.ntmps29
  have hl0 : 0 ≤ l ∧ l ≤ 1048576 := ⟨h0, hl⟩
  clear h0 hl
  obtain ⟨m2, hm2⟩ : ∃ y, y = l := ⟨_, rfl⟩
  have b2 : 0 ≤ m2 ∧ m2 ≤ 1048576 := by omega
  have HM2 : Hid (m2 = l) := hm2
  have d0 := HB0.out.1.cell 0 rfl
  have d1 := HB0.out.1.cell 1 rfl
  have d2 := HB0.out.1.cell 2 rfl
  have d3 := HB0.out.1.cell 3 rfl
  have dz := HB0.out.1.2
  go_wp2_with fail
  (try rw [← hm2])
  clear hm2 dz d0 d1 d2 d3
  refine (szMemberS_n _ _ x2 m2 _ b2.1 b2.2 HFI.out.2.2.1 (HL.out.2.1.next HB0.out.2)).mono ?_
  rintro r w1 ⟨⟨r2, rfl, hr2⟩, hb⟩
  have HB1 : Hid (Bx w1 w.heap.size [.int .i64 x0, .int .i64 x1, .slice a1 x2.length k1, .slice a2 x3.length k2] ∧ Below w.heap.size w w1) := ⟨HB0.out.1.next hb, HB0.out.2.trans (hb.mono HB0.out.2.size)⟩
  clear hb HB0
  by_cases c2 : r2 < 0
  · have HN : Hid (l < ((szD shFence (x0, x1, x2, x3, ()) : Nat) : Int)) := Hid.intro (by rw [E.out]; have := HM2.out; omega)
    clear hr2
    go_wp2
    go_ret
    exact ⟨⟨-1, rfl, Or.inl ⟨rfl, HN.out⟩⟩, HB1.out.2⟩
  have HE2 : Hid (r2 = m2 - ((szD (.list shMember) x2 : Nat) : Int)) := Hid.intro (by rcases hr2 with e | e; (· omega); exact e.2)
  have g2 : 0 ≤ r2 ∧ r2 ≤ 1048576 := by have := HE2.out; omega
  clear hr2
  obtain ⟨m3, hm3⟩ : ∃ y, y = r2 := ⟨_, rfl⟩
  have b3 : 0 ≤ m3 ∧ m3 ≤ 1048576 := by omega
  have HM3 : Hid (m3 = r2) := hm3
  have d0 := HB1.out.1.cell 0 rfl
  have d1 := HB1.out.1.cell 1 rfl
  have d2 := HB1.out.1.cell 2 rfl
  have d3 := HB1.out.1.cell 3 rfl
  have dz := HB1.out.1.2
  go_wp2_with fail
  (try rw [← hm3])
  clear hm3 dz d0 d1 d2 d3
  refine (szIntS_n _ _ x3 m3 _ b3.1 b3.2 HFI.out.2.2.2.1 (HL.out.2.2.next HB1.out.2)).mono ?_
  rintro r w2 ⟨⟨r3, rfl, hr3⟩, hb⟩
  have HB2 : Hid (Bx w2 w.heap.size [.int .i64 x0, .int .i64 x1, .slice a1 x2.length k1, .slice a2 x3.length k2] ∧ Below w.heap.size w w2) := ⟨HB1.out.1.next hb, HB1.out.2.trans (hb.mono HB1.out.2.size)⟩
  clear hb HB1
  by_cases c3 : r3 < 0
  · have HN : Hid (l < ((szD shFence (x0, x1, x2, x3, ()) : Nat) : Int)) := Hid.intro (by rw [E.out]; have := HE2.out; have := HM2.out; have := HM3.out; omega)
    clear hr3
    go_wp2
    go_ret
    exact ⟨⟨-1, rfl, Or.inl ⟨rfl, HN.out⟩⟩, HB2.out.2⟩
  have HE3 : Hid (r3 = m3 - ((szD (.list .int) x3 : Nat) : Int)) := Hid.intro (by rcases hr3 with e | e; (· omega); exact e.2)
  have g3 : 0 ≤ r3 ∧ r3 ≤ 1048576 := by have := HE3.out; omega
  clear hr3
  have d0 := HB2.out.1.cell 0 rfl
  have d1 := HB2.out.1.cell 1 rfl
  have d2 := HB2.out.1.cell 2 rfl
  have d3 := HB2.out.1.cell 3 rfl
  have dz := HB2.out.1.2
  go_wp2
  go_ret
  exact ⟨⟨_, rfl, Or.inr ⟨by omega, by rw [E.out]; have := HE2.out; have := HM2.out; have := HE3.out; have := HM3.out; omega⟩⟩, HB2.out.2⟩
set_option maxRecDepth 100000 in
set_option maxHeartbeats 4000000 in
theorem szFenceStepS_n (a : Option Addr) (cap : Nat) (x : List (Sh.T shFenceStep)) (l : Int) (w : World) (h0 : 0 ≤ l) (hl : l ≤ 1048576) (hf : Fits (.list shFenceStep) x) (h : Lies w (.list shFenceStep) [.slice a x.length cap] x) :
    Calls Try.prog 32 #[.slice a x.length cap, .int .i64 l] w (SzP l (szD (.list shFenceStep) x) w) := by
  have hn : x.length ≤ 9223372036854775807 := by have := hf.1; unfold maxLen at this; omega
  have E : Hid (szD (.list shFenceStep) x = x.length) := by show x.length + _ = _; rw [sum_zero (f := szD shFenceStep) (fun _ => rfl)]; rfl
  clear h hf
  by_cases c : l - (x.length : Int) < 0
  · have HN : Hid (l < ((szD (.list shFenceStep) x : Nat) : Int)) := Hid.intro (by rw [E.out]; omega)
    generalize x.length = n at *
    go_enter Try.func32, Try.ntmps32
    go_wp2
    go_ret
    exact ⟨⟨-1, rfl, Or.inl ⟨rfl, HN.out⟩⟩, Below.refl _ _⟩
  · generalize x.length = n at *
    go_enter Try.func32, Try.ntmps32
    go_wp2
    go_ret
    exact ⟨⟨_, rfl, Or.inr ⟨by omega, by rw [E.out]⟩⟩, Below.refl _ _⟩
end Go.Proofs.Ytcbdlalpnlahcaa
