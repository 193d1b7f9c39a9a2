/- The contracts of mayOwn, hasTid, isRecord, lookAt. -/
import Derived.Test.YtenfaofhoheleaaGreatGsG
import Derived.Deep.RegionWith
import Derived.Deep.DeepCutAuto
import Derived.ChangeKeysEq
namespace Go.Proofs.YtenfaofhoheleaaGreat
open Go.RowKit
set_option linter.unusedVariables false

set_option maxHeartbeats 1000000 in
theorem mayOwn_any (s : Int) (w : World) : Calls Tryz.prog 62 #[.int .i64 s] w fun r w' => r = .returned (.bool (mayB s)) ∧ w' = w := by
  cases h1 : (s == 2)
  · cases h2 : (s == 3)
    all_goals
      go_enter Tryz.func62, Tryz.ntmps62
      go_wp2
      go_ret
      exact ⟨ret_bool (by rw [mayB, h1, h2]; rfl), rfl⟩
  · go_enter Tryz.func62, Tryz.ntmps62
    go_wp2
    go_ret
    exact ⟨ret_bool (by rw [mayB, h1]; rfl), rfl⟩
set_option maxHeartbeats 1000000 in
theorem hasTid_any (s : Int) (w : World) : Calls Tryz.prog 87 #[.int .i64 s] w fun r w' => r = .returned (.bool (hasB s)) ∧ w' = w := by
  cases h1 : (s == 3)
  · cases h2 : (s == 4)
    all_goals
      go_enter Tryz.func87, Tryz.ntmps87
      go_wp2
      go_ret
      exact ⟨ret_bool (by rw [hasB, h1, h2]; rfl), rfl⟩
  · go_enter Tryz.func87, Tryz.ntmps87
    go_wp2
    go_ret
    exact ⟨ret_bool (by rw [hasB, h1]; rfl), rfl⟩
set_option maxRecDepth 100000 in
set_option maxHeartbeats 4000000 in
theorem isRecord_any (v : RecordV) (ep : Int) (w : World) (h1 : v.f0.size ≤ maxLen) (h2 : v.f1.size ≤ maxLen) :
    Calls Tryz.prog 59 #[.agg #[.string v.f0, .string v.f1, .int .i64 v.f2, .int .i64 v.f3, .bool v.f4, .int .i64 v.f5], .int .i64 ep] w fun r w' => r = .returned (.bool (recOk ep v)) ∧ Below w.heap.size w w' := by
  obtain ⟨x0, x1, x2, x3, x4, x5⟩ := v
  simp only at h1 h2
  have HC : Hid (recOk ep ⟨x0, x1, x2, x3, x4, x5⟩ = (keyOk x0 && (valOk x1 && (goodT x2 x3 && decide (x2 ≤ ep))))) := rfl
  cases e1 : keyOk x0
  · go_enter Tryz.func59, Tryz.ntmps59
    go_wp2_with (first
      | (go_at_call 82; refine (isKey_any _ _ h1).mono ?_; rintro e w' ⟨rfl, rfl⟩)
      | (go_at_call 83; refine (isValue_any _ _ h2).mono ?_; rintro e w' ⟨rfl, rfl⟩))
    go_ret
    exact ⟨ret_bool (by rw [HC.out, e1]; rfl), (by repeat (first | refine Below.setCell ?_ (by (try simp) <;> omega) _ | refine Below.alloc ?_ (by (try simp) <;> omega) _ | refine Below.drew ?_ | assumption | exact Below.refl _ _ | refine Below.trans ?_ (Below.mono (by assumption) (by (try simp) <;> omega))))⟩
  cases e2 : valOk x1
  · go_enter Tryz.func59, Tryz.ntmps59
    go_wp2_with (first
      | (go_at_call 82; refine (isKey_any _ _ h1).mono ?_; rintro e w' ⟨rfl, rfl⟩)
      | (go_at_call 83; refine (isValue_any _ _ h2).mono ?_; rintro e w' ⟨rfl, rfl⟩))
    go_ret
    exact ⟨ret_bool (by rw [HC.out, e1, e2]; rfl), (by repeat (first | refine Below.setCell ?_ (by (try simp) <;> omega) _ | refine Below.alloc ?_ (by (try simp) <;> omega) _ | refine Below.drew ?_ | assumption | exact Below.refl _ _ | refine Below.trans ?_ (Below.mono (by assumption) (by (try simp) <;> omega))))⟩
  have HB0 : Hid (Bx (w.alloc (.cells #[.string x0, .string x1, .int .i64 x2, .int .i64 x3, .bool x4, .int .i64 x5] 52)) w.heap.size [.string x0, .string x1, .int .i64 x2, .int .i64 x3, .bool x4, .int .i64 x5]) := Bx.new w [.string x0, .string x1, .int .i64 x2, .int .i64 x3, .bool x4, .int .i64 x5] 52
  go_enter Tryz.func59, Tryz.ntmps59
  go_wp2_with (first
      | (go_at_call 82; refine (isKey_any _ _ h1).mono ?_; rintro e w' ⟨rfl, rfl⟩)
      | (go_at_call 83; refine (isValue_any _ _ h2).mono ?_; rintro e w' ⟨rfl, rfl⟩))
  refine (goodTid_any _ _ _ _).mono ?_
  rintro r w1 ⟨rfl, hb⟩
  have HB : Hid (Below w.heap.size w w1) := below_next' (Go.Joins.below_alloc1 _ _) hb
  have hx := HB0.out.next hb
  have c2 := hx.cell 2 rfl
  have hz := hx.2
  clear hx hb HB0
  cases e3 : goodT x2 x3
  · go_wp2
    go_ret
    exact ⟨ret_bool (by rw [HC.out, e1, e2, e3]; rfl), HB.out⟩
  go_wp2
  go_ret
  exact ⟨ret_bool (by rw [HC.out, e1, e2, e3]; simp), HB.out⟩

/-- Whether one of the first m looks is at t. -/
def FoundL (L : Nat → LookV) (m : Nat) (t : ByteArray) (f : Bool) : Prop := f = true ↔ ∃ j, j < m ∧ (L j).f0.toList = t.toList
def LookPost (L : Nat → LookV) (m : Nat) (t : ByteArray) (w : World) (r : Ending) (w' : World) : Prop :=
  ∃ (o : LookV) (f : Bool), r = .returned (.tuple #[.agg #[.string o.f0, .string o.f1, .int .i64 o.f2, .int .i64 o.f3, .bool o.f4], .bool f]) ∧ FoundL L m t f ∧ Below w.heap.size w w'
set_option maxRecDepth 100000 in
set_option maxHeartbeats 4000000 in
theorem lookAt_any (a : Option Addr) (m cap : Nat) (L : Nat → LookV) (t : ByteArray) (w : World) (hm : m ≤ 1048576) (hs : Sl w a m 5 (lookF L)) :
    Calls Tryz.prog 104 #[.slice a m cap, .string t] w fun r w' => LookPost L m t w r w' := by
  have HS : Hid (Sl w a m 5 (lookF L)) := hs
  clear hs
  have HT : Hid (Bx (w.alloc (.cells #[.string ⟨#[]⟩, .string ⟨#[]⟩, .int .i64 0, .int .i64 0, .bool false] 110)) w.heap.size [.string ⟨#[]⟩, .string ⟨#[]⟩, .int .i64 0, .int .i64 0, .bool false]) := Bx.new w [.string ⟨#[]⟩, .string ⟨#[]⟩, .int .i64 0, .int .i64 0, .bool false] _
  go_enter Tryz.func104, Tryz.ntmps104
  go_wp2
  go_loopw [10] (fun i wr => ∃ k : Nat, k ≤ m ∧ i = .int .i64 k ∧ (∀ i, i < k → (L i).f0.toList ≠ t.toList) ∧ Bx wr w.heap.size [.string ⟨#[]⟩, .string ⟨#[]⟩, .int .i64 0, .int .i64 0, .bool false] ∧ Below w.heap.size w wr) (fun i _ => m - (intOf i).toNat)
  case atStart => exact ⟨0, Nat.zero_le _, rfl, fun i hi => absurd hi (by omega), HT.out, (by repeat (first | refine Below.setCell ?_ (by (try simp) <;> omega) _ | refine Below.alloc ?_ (by (try simp) <;> omega) _ | refine Below.drew ?_ | assumption | exact Below.refl _ _ | refine Below.trans ?_ (Below.mono (by assumption) (by (try simp) <;> omega))))⟩
  case round =>
    obtain ⟨k, hk, rfl, hall, hb2, hBr⟩ := hrel
    clear HT
    have d0 := hb2.cell 0 rfl
    have d1 := hb2.cell 1 rfl
    have d2 := hb2.cell 2 rfl
    have d3 := hb2.cell 3 rfl
    have d4 := hb2.cell 4 rfl
    have z0 := hb2.frz 0 (by simp)
    have z1 := hb2.frz 1 (by simp)
    have z2 := hb2.frz 2 (by simp)
    have z3 := hb2.frz 3 (by simp)
    have z4 := hb2.frz 4 (by simp)
    have sz := hb2.2
    by_cases hlt : k < m
    · rcases HS.out.below hBr (Nat.le_refl _) with h | ⟨b, off, rfl, hbs, hE⟩
      · omega
      have hlt' : (k : Int) < (m : Int) := by omega
      obtain ⟨c0, c1, c2, c3, c4⟩ := look_cells hE hlt
      have HA : Hid ((∀ i, i < k → (L i).f0.toList ≠ t.toList) ∧ Bx wr w.heap.size [.string ⟨#[]⟩, .string ⟨#[]⟩, .int .i64 0, .int .i64 0, .bool false] ∧ Below w.heap.size w wr) := ⟨hall, hb2, hBr⟩
      clear hall hb2 hBr hE
      cases hv : ((L k).f0.toList == t.toList)
      · go_wp2
        go_roundw
        case rel => exact ⟨k + 1, by omega, by go_num, upto_succ HA.out.1 (by simpa using hv), HA.out.2.1.alloc _, HA.out.2.2.alloc HA.out.2.2.size _⟩
        case measure => simp [intOf]; omega
      · have HF : Hid (FoundL L m t true) := ⟨fun _ => ⟨k, hlt, by simpa using hv⟩, fun _ => rfl⟩
        go_wp2
        refine bodyPost_ret (v := .tuple #[.agg #[.string (L k).f0, .string (L k).f1, .int .i64 (L k).f2, .int .i64 (L k).f3, .bool (L k).f4], .bool true]) (by simp [results, Tryz.results104, go_sem, *]) rfl ⟨L k, true, rfl, HF.out, ?_⟩
        refine Below.alloc ?_ (by simpa using HA.out.2.2.size) _
        repeat (refine Below.setCell ?_ (by dsimp only; omega) _)
        exact HA.out.2.2
    · have hkm : k = m := by omega
      subst hkm
      have HF : Hid (FoundL L k t false) := ⟨fun h => (by cases h), fun ⟨j, h1, h2⟩ => absurd h2 (hall j h1)⟩
      have HB : Hid (Below w.heap.size w wr) := hBr
      clear hb2 hBr hall
      go_wp2
      refine bodyPost_ret (v := .tuple #[.agg #[.string ⟨#[]⟩, .string ⟨#[]⟩, .int .i64 0, .int .i64 0, .bool false], .bool false]) (by simp [results, Tryz.results104, go_sem, *]) rfl ⟨⟨⟨#[]⟩, ⟨#[]⟩, 0, 0, false⟩, false, rfl, HF.out, ?_⟩
      repeat (refine Below.setCell ?_ (by dsimp only; omega) _)
      exact HB.out
end Go.Proofs.YtenfaofhoheleaaGreat
