/- Sizes of this chapter's data, as the laws reckon them. Written by tools/nest.py. -/
import Derived.Test.YtkpobihpcnoemaaDoorGaE
import Derived.Test.YtkpobihpcnoemaaDoorProg
import Derived.Test.YtkpobihpcnoemaaDoorBx
import Derived.WalkKit
import Derived.WalkSpells
import Derived.WalkLawsBesides
import Derived.Test.YtkpobihpcnoemaaDoorGaD
namespace Go.Proofs.YtkpobihpcnoemaaDoor
open Go.RowKit
set_option linter.unusedVariables false
set_option linter.unusedSimpArgs false

set_option maxRecDepth 100000 in
set_option maxHeartbeats 4000000 in
theorem szReplicaS_n (a : Option Addr) (cap : Nat) (x : List (Sh.T shReplica)) (l : Int) (w : World) (h0 : 0 ≤ l) (hl : l ≤ 1048576) (hf : Fits (.list shReplica) x) (h : Lies w (.list shReplica) [.slice a x.length cap] x) :
    Calls Tryd.prog 86 #[.slice a x.length cap, .int .i64 l] w (SzP l (szD (.list shReplica) x) w) := by
  have hn : x.length ≤ 9223372036854775807 := by have := hf.1; unfold maxLen at this; omega
  have E : Hid (szD (.list shReplica) x = x.length) := by show x.length + _ = _; rw [sum_zero (f := szD shReplica) (fun _ => rfl)]; rfl
  clear h hf
  by_cases c : l - (x.length : Int) < 0
  · have HN : Hid (l < ((szD (.list shReplica) x : Nat) : Int)) := Hid.intro (by rw [E.out]; omega)
    generalize x.length = n at *
    go_enter Tryd.func86, Tryd.ntmps86
    go_wp2
    go_ret
    exact ⟨⟨-1, rfl, Or.inl ⟨rfl, HN.out⟩⟩, Below.refl _ _⟩
  · generalize x.length = n at *
    go_enter Tryd.func86, Tryd.ntmps86
    go_wp2
    go_ret
    exact ⟨⟨_, rfl, Or.inr ⟨by omega, by rw [E.out]⟩⟩, Below.refl _ _⟩
set_option maxRecDepth 100000 in
set_option maxHeartbeats 4000000 in
theorem szShard_n (cs : List Value) (x0 : List (Sh.T shReplica)) (l : Int) (w : World) (h0 : 0 ≤ l) (hl : l ≤ 1048576) (hf : Fits shShard (x0, ())) (h : Lies w shShard cs (x0, ())) :
    Calls Tryd.prog 71 #[.agg cs.toArray, .int .i64 l] w (SzP l (szD shShard (x0, ())) w) := by
  obtain ⟨a1, k1, rfl, h1⟩ := lies_Shard h
  have E : Hid (szD shShard (x0, ()) = (szD (.list shReplica) x0 + 0)) := rfl
  have HFI : Hid (Fits shShard (x0, ())) := hf
  have HL : Hid (True ∧ Lies w (.list shReplica) [.slice a1 x0.length k1] x0) := ⟨trivial, h1⟩
  clear h hf h1
  have HB0 : Hid (Bx (w.alloc (.cells #[.slice a1 x0.length k1] 105)) w.heap.size [.slice a1 x0.length k1] ∧ Below w.heap.size w (w.alloc (.cells #[.slice a1 x0.length k1] 105))) := ⟨Bx.new w [.slice a1 x0.length k1] _, Go.Joins.below_alloc1 _ _⟩
  go_enter Tryd.func71, Tryd.ntmps71
  have hl0 : 0 ≤ l ∧ l ≤ 1048576 := ⟨h0, hl⟩
  clear h0 hl
  obtain ⟨m0, hm0⟩ : ∃ y, y = l := ⟨_, rfl⟩
  have b0 : 0 ≤ m0 ∧ m0 ≤ 1048576 := by omega
  have HM0 : Hid (m0 = l) := hm0
  have d0 := HB0.out.1.cell 0 rfl
  have dz := HB0.out.1.2
  go_wp2_with fail
  (try rw [← hm0])
  clear hm0 dz d0
  refine (szReplicaS_n _ _ x0 m0 _ b0.1 b0.2 HFI.out.1 (HL.out.2.next HB0.out.2)).mono ?_
  rintro r w1 ⟨⟨r0, rfl, hr0⟩, hb⟩
  have HB1 : Hid (Bx w1 w.heap.size [.slice a1 x0.length k1] ∧ Below w.heap.size w w1) := ⟨HB0.out.1.next hb, HB0.out.2.trans (hb.mono HB0.out.2.size)⟩
  clear hb HB0
  by_cases c0 : r0 < 0
  · have HN : Hid (l < ((szD shShard (x0, ()) : Nat) : Int)) := Hid.intro (by rw [E.out]; have := HM0.out; omega)
    clear hr0
    go_wp2
    go_ret
    exact ⟨⟨-1, rfl, Or.inl ⟨rfl, HN.out⟩⟩, HB1.out.2⟩
  have HE0 : Hid (r0 = m0 - ((szD (.list shReplica) x0 : Nat) : Int)) := Hid.intro (by rcases hr0 with e | e; (· omega); exact e.2)
  have g0 : 0 ≤ r0 ∧ r0 ≤ 1048576 := by have := HE0.out; omega
  clear hr0
  have d0 := HB1.out.1.cell 0 rfl
  have dz := HB1.out.1.2
  go_wp2
  go_ret
  exact ⟨⟨_, rfl, Or.inr ⟨by omega, by rw [E.out]; have := HE0.out; have := HM0.out; omega⟩⟩, HB1.out.2⟩
set_option maxRecDepth 100000 in
set_option maxHeartbeats 4000000 in
theorem szShardS_n (a : Option Addr) (cap : Nat) (x : List (Sh.T shShard)) (l : Int) (w : World) (h0 : 0 ≤ l) (hl : l ≤ 1048576) (hf : Fits (.list shShard) x) (h : Lies w (.list shShard) [.slice a x.length cap] x) :
    Calls Tryd.prog 52 #[.slice a x.length cap, .int .i64 l] w (SzP l (szD (.list shShard) x) w) := by
  have hn : x.length ≤ 9223372036854775807 := by have := hf.1; unfold maxLen at this; omega
  have HL : Hid (Lies w (.list shShard) [.slice a x.length cap] x ∧ Fits (.list shShard) x) := ⟨h, hf⟩
  clear h hf
  have HSZ : Hid (szD (.list shShard) x = x.length + (x.map (szD shShard)).sum) := rfl
  have HPT : Hid (∀ k, ((x.take k).map (szD shShard)).sum ≤ (x.map (szD shShard)).sum) := sz_part x
  obtain ⟨n, hnn⟩ : ∃ n, n = x.length := ⟨_, rfl⟩
  have HN : Hid (n = x.length) := hnn
  rw [← hnn] at hn ⊢
  clear hnn
  by_cases c : l - (n : Int) < 0
  · have HX : Hid (l < ((szD (.list shShard) x : Nat) : Int)) := Hid.intro (by rw [HSZ.out]; have := HN.out; omega)
    go_enter Tryd.func52, Tryd.ntmps52
    go_wp2
    go_ret
    exact ⟨⟨-1, rfl, Or.inl ⟨rfl, HX.out⟩⟩, Below.refl _ _⟩
  go_enter Tryd.func52, Tryd.ntmps52
  go_wp2
  go_loopw [1, 5] (fun q i wr => ∃ (k : Nat) (y : Int), k ≤ n ∧ i = .int .i64 k ∧ q = .int .i64 y ∧ 0 ≤ y ∧ y ≤ 1048576 ∧ y = l - (n : Int) - ((((x.take k).map (szD shShard)).sum : Nat) : Int) ∧ Below w.heap.size w wr) (fun _ i _ => n - (intOf i).toNat)
  case atStart => exact ⟨0, _, Nat.zero_le _, rfl, rfl, by omega, by omega, by simp, Below.refl _ _⟩
  case round =>
    obtain ⟨k, y, hk, rfl, rfl, hy0, hy1, hys, hBr⟩ := hrel
    have HY : Hid (y = l - (n : Int) - ((((x.take k).map (szD shShard)).sum : Nat) : Int)) := hys
    clear hys
    by_cases hlt : k < n
    · have hlx : k < x.length := by have := HN.out; omega
      obtain ⟨g, off, hgo, hgs, ec, hel, hec, hle⟩ := Lies.elem (HL.out.1.next hBr) hlx
      subst hgo
      have hlt' : (k : Int) < (n : Int) := by omega
      have HB : Hid (Below w.heap.size w wr) := hBr
      have HS : Hid (((x.take (k + 1)).map (szD shShard)).sum = ((x.take k).map (szD shShard)).sum + szD shShard x[k]) := sz_take x k hlx
      have HCS : Hid (Lies wr shShard ec x[k] ∧ Fits shShard x[k]) := ⟨hle, HL.out.2.2 _ (List.getElem_mem hlx)⟩
      obtain ⟨v0, hev⟩ := list_of1 hel
      subst hev
      have c0 : wr.cell? ⟨g, off + k, none⟩ = some v0 := (by have := hec 0 (by simp); simpa [shShard, Sh.c] using this)
      clear hec hel hBr hle
      go_wp2_with fail
      refine (szShard_n [v0] x[k].1 y _ hy0 hy1 HCS.out.2 HCS.out.1).mono ?_
      rintro r w2 ⟨⟨l2, rfl, hl2⟩, hb2⟩
      have HB2 : Hid (Below w.heap.size w w2) := HB.out.trans (hb2.mono HB.out.size)
      clear hb2 HB c0
      by_cases hy : l2 < 0
      · have HX : Hid (l < ((szD (.list shShard) x : Nat) : Int)) := Hid.intro (by
          have h1 : y < ((szD shShard x[k] : Nat) : Int) := by rcases hl2 with e | e; (· exact e.2); omega
          have h2 := HPT.out (k + 1)
          have := HSZ.out; have := HS.out; have := HY.out; have := HN.out
          omega)
        clear hl2
        go_wp2
        go_ret
        exact ⟨⟨-1, rfl, Or.inl ⟨rfl, HX.out⟩⟩, HB2.out⟩
      · have HE : Hid (l2 = y - ((szD shShard x[k] : Nat) : Int)) := Hid.intro (by rcases hl2 with e | e; (· omega); exact e.2)
        have hl3 : 0 ≤ l2 ∧ l2 ≤ 1048576 := by have := HE.out; omega
        clear hl2
        go_wp2
        go_roundw
        case rel => exact ⟨k + 1, l2, by omega, by go_num, rfl, hl3.1, hl3.2, by rw [HS.out]; have := HE.out; have := HY.out; omega, HB2.out⟩
        case measure => simp [intOf]; omega
    · have hkn : k = n := by omega
      have HF : Hid (y = l - ((szD (.list shShard) x : Nat) : Int)) := Hid.intro (by
        have h1 := HY.out
        rw [hkn, HN.out, List.take_length] at h1
        rw [h1, HSZ.out]
        omega)
      clear hkn
      have HB : Hid (Below w.heap.size w wr) := hBr
      clear hBr
      go_wp2
      go_ret
      exact ⟨⟨y, rfl, Or.inr ⟨hy0, HF.out⟩⟩, HB.out⟩
set_option maxRecDepth 100000 in
set_option maxHeartbeats 4000000 in
theorem szCommit_n (cs : List Value) (x0 : List (Sh.T shShard)) (x1 : Int) (x2 : Int) (l : Int) (w : World) (h0 : 0 ≤ l) (hl : l ≤ 1048576) (hf : Fits shCommit (x0, x1, x2, ())) (h : Lies w shCommit cs (x0, x1, x2, ())) :
    Calls Tryd.prog 18 #[.agg cs.toArray, .int .i64 l] w (SzP l (szD shCommit (x0, x1, x2, ())) w) := by
  obtain ⟨a1, k1, rfl, h1⟩ := lies_Commit h
  have E : Hid (szD shCommit (x0, x1, x2, ()) = (szD (.list shShard) x0 + (0 + (0 + 0)))) := rfl
  have HFI : Hid (Fits shCommit (x0, x1, x2, ())) := hf
  have HL : Hid (True ∧ Lies w (.list shShard) [.slice a1 x0.length k1] x0) := ⟨trivial, h1⟩
  clear h hf h1
  have HB0 : Hid (Bx (w.alloc (.cells #[.slice a1 x0.length k1, .int .i64 x1, .int .i64 x2] 54)) w.heap.size [.slice a1 x0.length k1, .int .i64 x1, .int .i64 x2] ∧ Below w.heap.size w (w.alloc (.cells #[.slice a1 x0.length k1, .int .i64 x1, .int .i64 x2] 54))) := ⟨Bx.new w [.slice a1 x0.length k1, .int .i64 x1, .int .i64 x2] _, Go.Joins.below_alloc1 _ _⟩
  go_enter Tryd.func18, Tryd.ntmps18
  have hl0 : 0 ≤ l ∧ l ≤ 1048576 := ⟨h0, hl⟩
  clear h0 hl
  obtain ⟨m0, hm0⟩ : ∃ y, y = l := ⟨_, rfl⟩
  have b0 : 0 ≤ m0 ∧ m0 ≤ 1048576 := by omega
  have HM0 : Hid (m0 = l) := hm0
  have d0 := HB0.out.1.cell 0 rfl
  have d1 := HB0.out.1.cell 1 rfl
  have d2 := HB0.out.1.cell 2 rfl
  have dz := HB0.out.1.2
  go_wp2_with fail
  (try rw [← hm0])
  clear hm0 dz d0 d1 d2
  refine (szShardS_n _ _ x0 m0 _ b0.1 b0.2 HFI.out.1 (HL.out.2.next HB0.out.2)).mono ?_
  rintro r w1 ⟨⟨r0, rfl, hr0⟩, hb⟩
  have HB1 : Hid (Bx w1 w.heap.size [.slice a1 x0.length k1, .int .i64 x1, .int .i64 x2] ∧ Below w.heap.size w w1) := ⟨HB0.out.1.next hb, HB0.out.2.trans (hb.mono HB0.out.2.size)⟩
  clear hb HB0
  by_cases c0 : r0 < 0
  · have HN : Hid (l < ((szD shCommit (x0, x1, x2, ()) : Nat) : Int)) := Hid.intro (by rw [E.out]; have := HM0.out; omega)
    clear hr0
    go_wp2
    go_ret
    exact ⟨⟨-1, rfl, Or.inl ⟨rfl, HN.out⟩⟩, HB1.out.2⟩
  have HE0 : Hid (r0 = m0 - ((szD (.list shShard) x0 : Nat) : Int)) := Hid.intro (by rcases hr0 with e | e; (· omega); exact e.2)
  have g0 : 0 ≤ r0 ∧ r0 ≤ 1048576 := by have := HE0.out; omega
  clear hr0
  have d0 := HB1.out.1.cell 0 rfl
  have d1 := HB1.out.1.cell 1 rfl
  have d2 := HB1.out.1.cell 2 rfl
  have dz := HB1.out.1.2
  go_wp2
  go_ret
  exact ⟨⟨_, rfl, Or.inr ⟨by omega, by rw [E.out]; have := HE0.out; have := HM0.out; omega⟩⟩, HB1.out.2⟩
set_option maxRecDepth 100000 in
set_option maxHeartbeats 4000000 in
theorem szCommitStepS_n (a : Option Addr) (cap : Nat) (x : List (Sh.T shCommitStep)) (l : Int) (w : World) (h0 : 0 ≤ l) (hl : l ≤ 1048576) (hf : Fits (.list shCommitStep) x) (h : Lies w (.list shCommitStep) [.slice a x.length cap] x) :
    Calls Tryd.prog 24 #[.slice a x.length cap, .int .i64 l] w (SzP l (szD (.list shCommitStep) x) w) := by
  have hn : x.length ≤ 9223372036854775807 := by have := hf.1; unfold maxLen at this; omega
  have E : Hid (szD (.list shCommitStep) x = x.length) := by show x.length + _ = _; rw [sum_zero (f := szD shCommitStep) (fun _ => rfl)]; rfl
  clear h hf
  by_cases c : l - (x.length : Int) < 0
  · have HN : Hid (l < ((szD (.list shCommitStep) x : Nat) : Int)) := Hid.intro (by rw [E.out]; omega)
    generalize x.length = n at *
    go_enter Tryd.func24, Tryd.ntmps24
    go_wp2
    go_ret
    exact ⟨⟨-1, rfl, Or.inl ⟨rfl, HN.out⟩⟩, Below.refl _ _⟩
  · generalize x.length = n at *
    go_enter Tryd.func24, Tryd.ntmps24
    go_wp2
    go_ret
    exact ⟨⟨_, rfl, Or.inr ⟨by omega, by rw [E.out]⟩⟩, Below.refl _ _⟩
end Go.Proofs.YtkpobihpcnoemaaDoor
