/- Sizes of this chapter's data, as the laws reckon them. Written by tools/nest.py. -/
import Derived.Test.YtidalpgkljafdaaNtS
import Derived.Test.YtidalpgkljafdaaProg
import Derived.Test.YtidalpgkljafdaaBx
import Derived.WalkKit
import Derived.WalkSpells
import Derived.WalkLawsBesides
import Derived.Test.YtidalpgkljafdaaShP
namespace Go.Proofs.Ytidalpgkljafdaa
open Go.RowKit
set_option linter.unusedVariables false
set_option linter.unusedSimpArgs false

set_option maxRecDepth 100000 in
set_option maxHeartbeats 4000000 in
theorem szIntS_n (a : Option Addr) (cap : Nat) (x : List (Sh.T .int)) (l : Int) (w : World) (h0 : 0 ≤ l) (hl : l ≤ 1048576) (hf : Fits (.list .int) x) (h : Lies w (.list .int) [.slice a x.length cap] x) :
    Calls Try.prog 56 #[.slice a x.length cap, .int .i64 l] w (SzP l (szD (.list .int) x) w) := by
  have hn : x.length ≤ 9223372036854775807 := by have := hf.1; unfold maxLen at this; omega
  have E : Hid (szD (.list .int) x = x.length) := by show x.length + _ = _; rw [sum_zero (f := szD .int) (fun _ => rfl)]; rfl
  clear h hf
  by_cases c : l - (x.length : Int) < 0
  · have HN : Hid (l < ((szD (.list .int) x : Nat) : Int)) := Hid.intro (by rw [E.out]; omega)
    generalize x.length = n at *
    go_enter Try.func56, Try.ntmps56
    go_wp2
    go_ret
    exact ⟨⟨-1, rfl, Or.inl ⟨rfl, HN.out⟩⟩, Below.refl _ _⟩
  · generalize x.length = n at *
    go_enter Try.func56, Try.ntmps56
    go_wp2
    go_ret
    exact ⟨⟨_, rfl, Or.inr ⟨by omega, by rw [E.out]⟩⟩, Below.refl _ _⟩
set_option maxRecDepth 100000 in
set_option maxHeartbeats 4000000 in
theorem szLeases_n (cs : List Value) (x0 : Int) (x1 : Int) (x2 : List (Sh.T .int)) (x3 : Int) (x4 : Int) (x5 : List (Sh.T .int)) (l : Int) (w : World) (h0 : 0 ≤ l) (hl : l ≤ 1048576) (hf : Fits shLeases (x0, x1, x2, x3, x4, x5, ())) (h : Lies w shLeases cs (x0, x1, x2, x3, x4, x5, ())) :
    Calls Try.prog 26 #[.agg cs.toArray, .int .i64 l] w (SzP l (szD shLeases (x0, x1, x2, x3, x4, x5, ())) w) := by
  obtain ⟨a1, k1, a2, k2, rfl, h1, h2⟩ := lies_Leases h
  have E : Hid (szD shLeases (x0, x1, x2, x3, x4, x5, ()) = (0 + (0 + (szD (.list .int) x2 + (0 + (0 + (szD (.list .int) x5 + 0))))))) := rfl
  have HFI : Hid (Fits shLeases (x0, x1, x2, x3, x4, x5, ())) := hf
  have HL : Hid (True ∧ Lies w (.list .int) [.slice a1 x2.length k1] x2 ∧ Lies w (.list .int) [.slice a2 x5.length k2] x5) := ⟨trivial, h1, h2⟩
  clear h hf h1 h2
  have HB0 : Hid (Bx (w.alloc (.cells #[.int .i64 x0, .int .i64 x1, .slice a1 x2.length k1, .int .i64 x3, .int .i64 x4, .slice a2 x5.length k2] 49)) w.heap.size [.int .i64 x0, .int .i64 x1, .slice a1 x2.length k1, .int .i64 x3, .int .i64 x4, .slice a2 x5.length k2] ∧ Below w.heap.size w (w.alloc (.cells #[.int .i64 x0, .int .i64 x1, .slice a1 x2.length k1, .int .i64 x3, .int .i64 x4, .slice a2 x5.length k2] 49))) := ⟨Bx.new w [.int .i64 x0, .int .i64 x1, .slice a1 x2.length k1, .int .i64 x3, .int .i64 x4, .slice a2 x5.length k2] _, Go.Joins.below_alloc1 _ _⟩
  go_enter Try.func26, Try.ntmps26
  have hl0 : 0 ≤ l ∧ l ≤ 1048576 := ⟨h0, hl⟩
  clear h0 hl
  obtain ⟨m2, hm2⟩ : ∃ y, y = l := ⟨_, rfl⟩
  have b2 : 0 ≤ m2 ∧ m2 ≤ 1048576 := by omega
  have HM2 : Hid (m2 = l) := hm2
  have d0 := HB0.out.1.cell 0 rfl
  have d1 := HB0.out.1.cell 1 rfl
  have d2 := HB0.out.1.cell 2 rfl
  have d3 := HB0.out.1.cell 3 rfl
  have d4 := HB0.out.1.cell 4 rfl
  have d5 := HB0.out.1.cell 5 rfl
  have dz := HB0.out.1.2
  go_wp2_with fail
  (try rw [← hm2])
  clear hm2 dz d0 d1 d2 d3 d4 d5
  refine (szIntS_n _ _ x2 m2 _ b2.1 b2.2 HFI.out.2.2.1 (HL.out.2.1.next HB0.out.2)).mono ?_
  rintro r w1 ⟨⟨r2, rfl, hr2⟩, hb⟩
  have HB1 : Hid (Bx w1 w.heap.size [.int .i64 x0, .int .i64 x1, .slice a1 x2.length k1, .int .i64 x3, .int .i64 x4, .slice a2 x5.length k2] ∧ Below w.heap.size w w1) := ⟨HB0.out.1.next hb, HB0.out.2.trans (hb.mono HB0.out.2.size)⟩
  clear hb HB0
  by_cases c2 : r2 < 0
  · have HN : Hid (l < ((szD shLeases (x0, x1, x2, x3, x4, x5, ()) : Nat) : Int)) := Hid.intro (by rw [E.out]; have := HM2.out; omega)
    clear hr2
    go_wp2
    go_ret
    exact ⟨⟨-1, rfl, Or.inl ⟨rfl, HN.out⟩⟩, HB1.out.2⟩
  have HE2 : Hid (r2 = m2 - ((szD (.list .int) x2 : Nat) : Int)) := Hid.intro (by rcases hr2 with e | e; (· omega); exact e.2)
  have g2 : 0 ≤ r2 ∧ r2 ≤ 1048576 := by have := HE2.out; omega
  clear hr2
  obtain ⟨m5, hm5⟩ : ∃ y, y = r2 := ⟨_, rfl⟩
  have b5 : 0 ≤ m5 ∧ m5 ≤ 1048576 := by omega
  have HM5 : Hid (m5 = r2) := hm5
  have d0 := HB1.out.1.cell 0 rfl
  have d1 := HB1.out.1.cell 1 rfl
  have d2 := HB1.out.1.cell 2 rfl
  have d3 := HB1.out.1.cell 3 rfl
  have d4 := HB1.out.1.cell 4 rfl
  have d5 := HB1.out.1.cell 5 rfl
  have dz := HB1.out.1.2
  go_wp2_with fail
  (try rw [← hm5])
  clear hm5 dz d0 d1 d2 d3 d4 d5
  refine (szIntS_n _ _ x5 m5 _ b5.1 b5.2 HFI.out.2.2.2.2.2.1 (HL.out.2.2.next HB1.out.2)).mono ?_
  rintro r w2 ⟨⟨r5, rfl, hr5⟩, hb⟩
  have HB2 : Hid (Bx w2 w.heap.size [.int .i64 x0, .int .i64 x1, .slice a1 x2.length k1, .int .i64 x3, .int .i64 x4, .slice a2 x5.length k2] ∧ Below w.heap.size w w2) := ⟨HB1.out.1.next hb, HB1.out.2.trans (hb.mono HB1.out.2.size)⟩
  clear hb HB1
  by_cases c5 : r5 < 0
  · have HN : Hid (l < ((szD shLeases (x0, x1, x2, x3, x4, x5, ()) : Nat) : Int)) := Hid.intro (by rw [E.out]; have := HE2.out; have := HM2.out; have := HM5.out; omega)
    clear hr5
    go_wp2
    go_ret
    exact ⟨⟨-1, rfl, Or.inl ⟨rfl, HN.out⟩⟩, HB2.out.2⟩
  have HE5 : Hid (r5 = m5 - ((szD (.list .int) x5 : Nat) : Int)) := Hid.intro (by rcases hr5 with e | e; (· omega); exact e.2)
  have g5 : 0 ≤ r5 ∧ r5 ≤ 1048576 := by have := HE5.out; omega
  clear hr5
  have d0 := HB2.out.1.cell 0 rfl
  have d1 := HB2.out.1.cell 1 rfl
  have d2 := HB2.out.1.cell 2 rfl
  have d3 := HB2.out.1.cell 3 rfl
  have d4 := HB2.out.1.cell 4 rfl
  have d5 := HB2.out.1.cell 5 rfl
  have dz := HB2.out.1.2
  go_wp2
  go_ret
  exact ⟨⟨_, rfl, Or.inr ⟨by omega, by rw [E.out]; have := HE2.out; have := HM2.out; have := HE5.out; have := HM5.out; omega⟩⟩, HB2.out.2⟩
set_option maxRecDepth 100000 in
set_option maxHeartbeats 4000000 in
theorem szLeaseStepS_n (a : Option Addr) (cap : Nat) (x : List (Sh.T shLeaseStep)) (l : Int) (w : World) (h0 : 0 ≤ l) (hl : l ≤ 1048576) (hf : Fits (.list shLeaseStep) x) (h : Lies w (.list shLeaseStep) [.slice a x.length cap] x) :
    Calls Try.prog 30 #[.slice a x.length cap, .int .i64 l] w (SzP l (szD (.list shLeaseStep) x) w) := by
  have hn : x.length ≤ 9223372036854775807 := by have := hf.1; unfold maxLen at this; omega
  have E : Hid (szD (.list shLeaseStep) x = x.length) := by show x.length + _ = _; rw [sum_zero (f := szD shLeaseStep) (fun _ => rfl)]; rfl
  clear h hf
  by_cases c : l - (x.length : Int) < 0
  · have HN : Hid (l < ((szD (.list shLeaseStep) x : Nat) : Int)) := Hid.intro (by rw [E.out]; omega)
    generalize x.length = n at *
    go_enter Try.func30, Try.ntmps30
    go_wp2
    go_ret
    exact ⟨⟨-1, rfl, Or.inl ⟨rfl, HN.out⟩⟩, Below.refl _ _⟩
  · generalize x.length = n at *
    go_enter Try.func30, Try.ntmps30
    go_wp2
    go_ret
    exact ⟨⟨_, rfl, Or.inr ⟨by omega, by rw [E.out]⟩⟩, Below.refl _ _⟩
end Go.Proofs.Ytidalpgkljafdaa
