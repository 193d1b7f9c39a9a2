/- The contract of the specification's l5Find over a list of records. -/
import Derived.Test.YtiepfdkfadbllaaPvR
import Derived.Test.YtiepfdkfadbllaaLgG
namespace Go.Proofs.Ytiepfdkfadbllaa
open Go.RowKit
set_option linter.unusedVariables false

/-- The first record of the key, and whether there is one. -/
def FindPost (L : List RecordV) (t : ByteArray) (w : World) (r : Ending) (w' : World) : Prop :=
  ∃ (o : RecordV) (f : Bool), r = .returned (.tuple #[.agg #[.string o.f0, .string o.f1, .int .i64 o.f2, .int .i64 o.f3, .bool o.f4, .int .i64 o.f5], .bool f]) ∧ ((f = true ∧ ∃ q, q < L.length ∧ (vR L q).f0.toList = t.toList ∧ o = vR L q) ∨ (f = false ∧ ∀ q, q < L.length → (vR L q).f0.toList ≠ t.toList)) ∧ Below w.heap.size w w'
set_option maxRecDepth 100000 in
set_option maxHeartbeats 4000000 in
theorem l5Find_at (ra : Option Addr) (rc : Nat) (L : List RecordV) (t : ByteArray) (w : World) (hrn : L.length ≤ 1048576) (hs : Sl w ra L.length 6 (recordF (vR L))) :
    Calls Try.prog 58 #[.agg #[.int .i64 0, .slice ra L.length rc, .slice none 0 0, .slice none 0 0], .string t] w fun r w' => FindPost L t w r w' := by
  have HS : Hid (Sl w ra L.length 6 (recordF (vR L))) := hs
  clear hs
  have HT : Hid (Bx ((w.alloc (.cells #[.int .i64 0, .slice ra L.length rc, .slice none 0 0, .slice none 0 0] 91)).alloc (.cells #[.string ⟨#[]⟩, .string ⟨#[]⟩, .int .i64 0, .int .i64 0, .bool false, .int .i64 0] 59)) (w.heap.size + 1) [.string ⟨#[]⟩, .string ⟨#[]⟩, .int .i64 0, .int .i64 0, .bool false, .int .i64 0] ∧ Below w.heap.size w ((w.alloc (.cells #[.int .i64 0, .slice ra L.length rc, .slice none 0 0, .slice none 0 0] 91)).alloc (.cells #[.string ⟨#[]⟩, .string ⟨#[]⟩, .int .i64 0, .int .i64 0, .bool false, .int .i64 0] 59))) := by
    have := Bx.new (w.alloc (.cells #[.int .i64 0, .slice ra L.length rc, .slice none 0 0, .slice none 0 0] 91)) [.string ⟨#[]⟩, .string ⟨#[]⟩, .int .i64 0, .int .i64 0, .bool false, .int .i64 0] 59
    rw [World.size_alloc] at this
    exact ⟨this, below_nx (Go.Joins.below_alloc1 _ _) (Go.Joins.below_alloc1 _ _)⟩
  go_enter Try.func58, Try.ntmps58
  go_wp2
  go_loopw [11] (fun i wr => ∃ k : Nat, k ≤ L.length ∧ i = .int .i64 k ∧ (∀ j, j < k → (vR L j).f0.toList ≠ t.toList) ∧ Bx wr (w.heap.size + 1) [.string ⟨#[]⟩, .string ⟨#[]⟩, .int .i64 0, .int .i64 0, .bool false, .int .i64 0] ∧ Below w.heap.size w wr) (fun i _ => L.length - (intOf i).toNat)
  case atStart => exact ⟨0, Nat.zero_le _, rfl, fun i hi => absurd hi (by omega), HT.out.1, HT.out.2⟩
  case round =>
    obtain ⟨k, hk, rfl, hall, hb2, hBr⟩ := hrel
    clear HT
    have d0 := hb2.cell 0 rfl
    have d1 := hb2.cell 1 rfl
    have d2 := hb2.cell 2 rfl
    have d3 := hb2.cell 3 rfl
    have d4 := hb2.cell 4 rfl
    have d5 := hb2.cell 5 rfl
    have z0 := hb2.frz 0 (by simp)
    have z1 := hb2.frz 1 (by simp)
    have z2 := hb2.frz 2 (by simp)
    have z3 := hb2.frz 3 (by simp)
    have z4 := hb2.frz 4 (by simp)
    have z5 := hb2.frz 5 (by simp)
    have sz := hb2.2
    by_cases hlt : k < L.length
    · rcases HS.out.below hBr (Nat.le_refl _) with h | ⟨b, off, rfl, hbs, hE⟩
      · omega
      have hlt' : (k : Int) < (L.length : Int) := by omega
      obtain ⟨c0, c1, c2, c3, c4, c5⟩ := record_cells hE hlt
      have HA : Hid ((∀ j, j < k → (vR L j).f0.toList ≠ t.toList) ∧ Bx wr (w.heap.size + 1) [.string ⟨#[]⟩, .string ⟨#[]⟩, .int .i64 0, .int .i64 0, .bool false, .int .i64 0] ∧ Below w.heap.size w wr) := ⟨hall, hb2, hBr⟩
      clear hall hb2 hBr hE
      cases hv : ((vR L k).f0.toList == t.toList)
      · go_wp2
        go_roundw
        case rel => exact ⟨k + 1, by omega, by go_num, upto_succ HA.out.1 (by simpa using hv), HA.out.2.1.alloc _, HA.out.2.2.alloc HA.out.2.2.size _⟩
        case measure => simp [intOf]; omega
      · have HV : Hid ((vR L k).f0.toList = t.toList) := by show _ = _; simpa using hv
        go_wp2
        refine bodyPost_ret (v := .tuple #[.agg #[.string (vR L k).f0, .string (vR L k).f1, .int .i64 (vR L k).f2, .int .i64 (vR L k).f3, .bool (vR L k).f4, .int .i64 (vR L k).f5], .bool true]) (by simp [results, Try.results58, go_sem, *]) rfl ⟨vR L k, true, rfl, Or.inl ⟨rfl, k, hlt, HV.out, rfl⟩, ?_⟩
        refine Below.alloc ?_ (by simpa using HA.out.2.2.size) _
        repeat (refine Below.setCell ?_ (by dsimp only; omega) _)
        exact HA.out.2.2
    · have hkm : k = L.length := by omega
      have hlt' : ¬ (k : Int) < (L.length : Int) := by omega
      have HF : Hid (∀ q, q < L.length → (vR L q).f0.toList ≠ t.toList) := by rw [hkm] at hall; exact hall
      have HB : Hid (Below w.heap.size w wr) := hBr
      clear hb2 hBr hall hkm
      go_wp2
      refine bodyPost_ret (v := .tuple #[.agg #[.string t, .string ⟨#[]⟩, .int .i64 0, .int .i64 0, .bool false, .int .i64 0], .bool false]) (by simp [results, Try.results58, go_sem, *]) rfl ⟨⟨t, ⟨#[]⟩, 0, 0, false, 0⟩, false, rfl, Or.inr ⟨rfl, HF.out⟩, ?_⟩
      repeat (refine Below.setCell ?_ (by dsimp only; omega) _)
      exact HB.out
end Go.Proofs.Ytiepfdkfadbllaa
