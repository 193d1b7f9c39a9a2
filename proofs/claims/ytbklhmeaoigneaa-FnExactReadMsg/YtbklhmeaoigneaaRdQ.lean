/- The contract of the specification's ReadMsg. -/
import Derived.Test.YtbklhmeaoigneaaRdW
import Derived.Test.YtbklhmeaoigneaaRdP
import Derived.Test.YtbklhmeaoigneaaMsgS
namespace Go.Proofs.Ytbklhmeaoigneaa
open Go.RowKit
set_option linter.unusedVariables false
theorem rAgg_form (s : ByteArray) : ∃ (k0 k1 k2 k3 : Int) (ks kv : ByteArray) (k6 k7 : Int) (k8 : Bool), rAgg s = #[.int .i64 k0, .int .i64 k1, .int .i64 k2, .int .i64 k3, .string ks, .string kv, .int .i64 k6, .int .i64 k7, .bool k8] := ⟨_, _, _, _, _, _, _, _, _, rfl⟩
set_option maxHeartbeats 1000000 in
theorem specReadMsg_any (s : ByteArray) (w : World) (hs : s.size ≤ 1048576) :
    Calls Try.prog 46 #[.string s] w fun r w' => r = .returned (.tuple #[.agg (rAgg s), .int .i64 (mI s (rEnd s))]) ∧ Below w.heap.size w w' := by
  obtain ⟨k0, k1, k2, k3, ks, kv, k6, k7, k8, hA⟩ := rAgg_form s
  have HA : Hid (rAgg s = #[.int .i64 k0, .int .i64 k1, .int .i64 k2, .int .i64 k3, .string ks, .string kv, .int .i64 k6, .int .i64 k7, .bool k8]) := hA
  clear hA
  go_enter Try.func46, Try.ntmps46
  go_wp2_with fail
  refine (l1Read_any s _ hs).mono ?_
  rintro r w2 ⟨rfl, hb2⟩
  rw [HA.out]
  generalize hE : mI s (rEnd s) = en
  have HE : Hid (mI s (rEnd s) = en) := hE
  have q2 : Blk w2 w.heap.size (.int .i64 0) (.int .i64 0) (.int .i64 0) (.int .i64 0) (.string ⟨#[]⟩) (.string ⟨#[]⟩) (.int .i64 0) (.int .i64 0) (.bool false) := (Blk.new w _ _ _ _ _ _ _ _ _).below hb2 (by simp)
  have B2 : Hid (Below w.heap.size w w2) := (by repeat (first | refine Below.setCell ?_ (by (try simp) <;> omega) _ | refine Below.alloc ?_ (by (try simp) <;> omega) _ | refine Below.drew ?_ | assumption | exact Below.refl _ _ | refine Below.trans ?_ (Below.mono (by assumption) (by (try simp) <;> omega))))
  obtain ⟨d0, d1, d2, d3, d4, d5, d6, d7, d8⟩ := q2.cells
  have fz := q2.frozen
  clear hb2 q2 hE
  go_wp2
  have hB := B2.out
  exact bodyPost_ret (v := .tuple #[.agg #[.int .i64 k0, .int .i64 k1, .int .i64 k2, .int .i64 k3, .string ks, .string kv, .int .i64 k6, .int .i64 k7, .bool k8], .int .i64 en]) (by simp [results, Try.results46, go_sem, d0, d1, d2, d3, d4, d5, d6, d7, d8]) rfl ⟨by rw [HA.out, HE.out], below_set9 hB (Nat.le_refl _)⟩
end Go.Proofs.Ytbklhmeaoigneaa
