/- The contracts of the specification's l5State, l5Writes, l5Find. -/
import Derived.Test.YtenfaofhoheleaaGreatGsA
import Derived.Test.YtenfaofhoheleaaGreatHasJ
namespace Go.Proofs.YtenfaofhoheleaaGreat
open Go.RowKit
set_option linter.unusedVariables false

set_option maxRecDepth 100000 in
set_option maxHeartbeats 4000000 in
theorem l5State_no (A : StA) (S : StV) (x : Int) (w : World) (h : inR x 1 (S.tn : Int) = false) :
    Calls Tryz.prog 53 #[.agg #[.int .i64 S.ep, .slice A.ra S.rn A.rc, .slice A.ta S.tn A.tc, .slice A.oa S.on A.oc], .int .i64 x] w fun r w' => r = .returned (.int .i64 0) ∧ Below w.heap.size w w' := by
  go_enter Tryz.func53, Tryz.ntmps53
  go_wp2_with (go_at_call 38; refine (l1In_any _ _ _ _).mono ?_; rintro e w' ⟨rfl, rfl⟩)
  go_ret
  exact ⟨rfl, (by repeat (first | refine Below.setCell ?_ (by (try simp) <;> omega) _ | refine Below.alloc ?_ (by (try simp) <;> omega) _ | refine Below.drew ?_ | assumption | exact Below.refl _ _ | refine Below.trans ?_ (Below.mono (by assumption) (by (try simp) <;> omega))))⟩
set_option maxRecDepth 100000 in
set_option maxHeartbeats 4000000 in
theorem l5State_at (A : StA) (S : StV) (q : Nat) (w : World) (hq : q < S.tn) (hn : S.tn ≤ 1048576) (hs : RuS w A.ta S.tn S.T A.U) :
    Calls Tryz.prog 53 #[.agg #[.int .i64 S.ep, .slice A.ra S.rn A.rc, .slice A.ta S.tn A.tc, .slice A.oa S.on A.oc], .int .i64 ((q : Int) + 1)] w fun r w' => r = .returned (.int .i64 (S.T q).st) ∧ Below w.heap.size w w' := by
  have h1 : inR ((q : Int) + 1) 1 (S.tn : Int) = true := inR_iff.2 ⟨by omega, by omega⟩
  have hsub : IntKind.i64.wrap ((q : Int) + 1 - 1) = (q : Int) := by rw [IntKind.wrap_i64]; omega
  have hqn' : (q : Int) < (S.tn : Int) := by omega
  have hs' := hs
  rcases hs'.1 with h | ⟨b, off, hta, hbs, hE⟩
  · omega
  obtain ⟨c0, c1, c2, c3, c4, c5, c6⟩ := ru_cells hE hq
  clear hs hs' hE
  rw [hta]
  clear hta
  go_enter Tryz.func53, Tryz.ntmps53
  go_wp2_with (go_at_call 38; refine (l1In_any _ _ _ _).mono ?_; rintro e w' ⟨rfl, rfl⟩)
  go_ret
  exact ⟨rfl, (by repeat (first | refine Below.setCell ?_ (by (try simp) <;> omega) _ | refine Below.alloc ?_ (by (try simp) <;> omega) _ | refine Below.drew ?_ | assumption | exact Below.refl _ _ | refine Below.trans ?_ (Below.mono (by assumption) (by (try simp) <;> omega))))⟩
set_option maxRecDepth 100000 in
set_option maxHeartbeats 4000000 in
theorem l5Writes_any (V : RuV) (la : Option Addr) (lc : Nat) (ca : Option Addr) (cc : Nat) (t : ByteArray) (w : World) (hcn : V.cn ≤ 1048576) (hs : Sl w ca V.cn 2 (cellF V.cl)) :
    Calls Tryz.prog 54 #[.agg #[.int .i64 V.id, .int .i64 V.st, .slice la V.ln lc, .slice ca V.cn cc, .int .i64 V.e, .int .i64 V.s, .bool V.b], .string t] w fun r w' => r = .returned (.bool (clB (writesP V t))) ∧ Below w.heap.size w w' := by
  have HS : Hid (Sl w ca V.cn 2 (cellF V.cl)) := hs
  clear hs
  go_enter Tryz.func54, Tryz.ntmps54
  go_wp2
  go_loopw [10] (fun i wr => ∃ k : Nat, k ≤ V.cn ∧ i = .int .i64 k ∧ (∀ j, j < k → (V.cl j).f0.toList ≠ t.toList) ∧ Below w.heap.size w wr) (fun i _ => V.cn - (intOf i).toNat)
  case atStart => exact ⟨0, Nat.zero_le _, rfl, fun i hi => absurd hi (by omega), Go.Joins.below_alloc1 _ _⟩
  case round =>
    obtain ⟨k, hk, rfl, hall, hBr⟩ := hrel
    by_cases hlt : k < V.cn
    · rcases HS.out.below hBr (Nat.le_refl _) with h | ⟨b, off, rfl, hbs, hE⟩
      · omega
      have hlt' : (k : Int) < (V.cn : Int) := by omega
      obtain ⟨c0, c1⟩ := cell_cells hE hlt
      have HA : Hid ((∀ j, j < k → (V.cl j).f0.toList ≠ t.toList) ∧ Below w.heap.size w wr) := ⟨hall, hBr⟩
      clear hall hBr hE
      cases hv : ((V.cl k).f0.toList == t.toList)
      · go_wp2
        go_roundw
        case rel => exact ⟨k + 1, by omega, by go_num, upto_succ HA.out.1 (by simpa using hv), HA.out.2.alloc HA.out.2.size _⟩
        case measure => simp [intOf]; omega
      · have HN : Hid (clB (writesP V t) = true) := clB_yes ⟨k, hlt, by simpa using hv⟩
        go_wp2
        go_ret
        exact ⟨ret_bool HN.out.symm, HA.out.2.alloc HA.out.2.size _⟩
    · have hkn : k = V.cn := by omega
      have hlt' : ¬ (k : Int) < (V.cn : Int) := by omega
      have HN : Hid (clB (writesP V t) = false) := clB_no fun ⟨j, h1, h2⟩ => hall j (by omega) h2
      have HB : Hid (Below w.heap.size w wr) := hBr
      clear hall hBr hkn
      go_wp2
      go_ret
      exact ⟨ret_bool HN.out.symm, HB.out⟩
/-- The first record of the key, and whether there is one. -/
def FindPost (S : StV) (t : ByteArray) (w : World) (r : Ending) (w' : World) : Prop :=
  ∃ (o : RecordV) (f : Bool), r = .returned (.tuple #[.agg #[.string o.f0, .string o.f1, .int .i64 o.f2, .int .i64 o.f3, .bool o.f4, .int .i64 o.f5], .bool f]) ∧ ((f = true ∧ ∃ q, q < S.rn ∧ (S.R q).f0.toList = t.toList ∧ o = S.R q) ∨ (f = false ∧ ∀ q, q < S.rn → (S.R q).f0.toList ≠ t.toList)) ∧ Below w.heap.size w w'
set_option maxRecDepth 100000 in
set_option maxHeartbeats 4000000 in
theorem l5Find_at (ra : Option Addr) (rc : Nat) (ta : Option Addr) (tc : Nat) (oa : Option Addr) (oc : Nat) (S : StV) (t : ByteArray) (w : World) (hrn : S.rn ≤ 1048576) (hs : Sl w ra S.rn 6 (recordF S.R)) :
    Calls Tryz.prog 78 #[.agg #[.int .i64 S.ep, .slice ra S.rn rc, .slice ta S.tn tc, .slice oa S.on oc], .string t] w fun r w' => FindPost S t w r w' := by
  have HS : Hid (Sl w ra S.rn 6 (recordF S.R)) := hs
  clear hs
  have HT : Hid (Bx ((w.alloc (.cells #[.int .i64 S.ep, .slice ra S.rn rc, .slice ta S.tn tc, .slice oa S.on oc] 34)).alloc (.cells #[.string ⟨#[]⟩, .string ⟨#[]⟩, .int .i64 0, .int .i64 0, .bool false, .int .i64 0] 52)) (w.heap.size + 1) [.string ⟨#[]⟩, .string ⟨#[]⟩, .int .i64 0, .int .i64 0, .bool false, .int .i64 0] ∧ Below w.heap.size w ((w.alloc (.cells #[.int .i64 S.ep, .slice ra S.rn rc, .slice ta S.tn tc, .slice oa S.on oc] 34)).alloc (.cells #[.string ⟨#[]⟩, .string ⟨#[]⟩, .int .i64 0, .int .i64 0, .bool false, .int .i64 0] 52))) := by
    have := Bx.new (w.alloc (.cells #[.int .i64 S.ep, .slice ra S.rn rc, .slice ta S.tn tc, .slice oa S.on oc] 34)) [.string ⟨#[]⟩, .string ⟨#[]⟩, .int .i64 0, .int .i64 0, .bool false, .int .i64 0] 52
    rw [World.size_alloc] at this
    exact ⟨this, below_next' (Go.Joins.below_alloc1 _ _) (Go.Joins.below_alloc1 _ _)⟩
  go_enter Tryz.func78, Tryz.ntmps78
  go_wp2
  go_loopw [11] (fun i wr => ∃ k : Nat, k ≤ S.rn ∧ i = .int .i64 k ∧ (∀ j, j < k → (S.R j).f0.toList ≠ t.toList) ∧ Bx wr (w.heap.size + 1) [.string ⟨#[]⟩, .string ⟨#[]⟩, .int .i64 0, .int .i64 0, .bool false, .int .i64 0] ∧ Below w.heap.size w wr) (fun i _ => S.rn - (intOf i).toNat)
  case atStart => exact ⟨0, Nat.zero_le _, rfl, fun i hi => absurd hi (by omega), HT.out.1, HT.out.2⟩
  case round =>
    obtain ⟨k, hk, rfl, hall, hb2, hBr⟩ := hrel
    clear HT
    have d0 := hb2.cell 0 rfl
    have d1 := hb2.cell 1 rfl
    have d2 := hb2.cell 2 rfl
    have d3 := hb2.cell 3 rfl
    have d4 := hb2.cell 4 rfl
    have d5 := hb2.cell 5 rfl
    have z0 := hb2.frz 0 (by simp)
    have z1 := hb2.frz 1 (by simp)
    have z2 := hb2.frz 2 (by simp)
    have z3 := hb2.frz 3 (by simp)
    have z4 := hb2.frz 4 (by simp)
    have z5 := hb2.frz 5 (by simp)
    have sz := hb2.2
    by_cases hlt : k < S.rn
    · rcases HS.out.below hBr (Nat.le_refl _) with h | ⟨b, off, rfl, hbs, hE⟩
      · omega
      have hlt' : (k : Int) < (S.rn : Int) := by omega
      obtain ⟨c0, c1, c2, c3, c4, c5⟩ := record_cells hE hlt
      have HA : Hid ((∀ j, j < k → (S.R j).f0.toList ≠ t.toList) ∧ Bx wr (w.heap.size + 1) [.string ⟨#[]⟩, .string ⟨#[]⟩, .int .i64 0, .int .i64 0, .bool false, .int .i64 0] ∧ Below w.heap.size w wr) := ⟨hall, hb2, hBr⟩
      clear hall hb2 hBr hE
      cases hv : ((S.R k).f0.toList == t.toList)
      · go_wp2
        go_roundw
        case rel => exact ⟨k + 1, by omega, by go_num, upto_succ HA.out.1 (by simpa using hv), HA.out.2.1.alloc _, HA.out.2.2.alloc HA.out.2.2.size _⟩
        case measure => simp [intOf]; omega
      · have HV : Hid ((S.R k).f0.toList = t.toList) := by show _ = _; simpa using hv
        go_wp2
        refine bodyPost_ret (v := .tuple #[.agg #[.string (S.R k).f0, .string (S.R k).f1, .int .i64 (S.R k).f2, .int .i64 (S.R k).f3, .bool (S.R k).f4, .int .i64 (S.R k).f5], .bool true]) (by simp [results, Tryz.results78, go_sem, *]) rfl ⟨S.R k, true, rfl, Or.inl ⟨rfl, k, hlt, HV.out, rfl⟩, ?_⟩
        refine Below.alloc ?_ (by simpa using HA.out.2.2.size) _
        repeat (refine Below.setCell ?_ (by dsimp only; omega) _)
        exact HA.out.2.2
    · have hkm : k = S.rn := by omega
      have hlt' : ¬ (k : Int) < (S.rn : Int) := by omega
      have HF : Hid (∀ q, q < S.rn → (S.R q).f0.toList ≠ t.toList) := by rw [hkm] at hall; exact hall
      have HB : Hid (Below w.heap.size w wr) := hBr
      clear hb2 hBr hall hkm
      go_wp2
      refine bodyPost_ret (v := .tuple #[.agg #[.string t, .string ⟨#[]⟩, .int .i64 0, .int .i64 0, .bool false, .int .i64 0], .bool false]) (by simp [results, Tryz.results78, go_sem, *]) rfl ⟨⟨t, ⟨#[]⟩, 0, 0, false, 0⟩, false, rfl, Or.inr ⟨rfl, HF.out⟩, ?_⟩
      repeat (refine Below.setCell ?_ (by dsimp only; omega) _)
      exact HB.out
end Go.Proofs.YtenfaofhoheleaaGreat
