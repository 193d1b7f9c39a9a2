/- One tid inside of a struct: toTid, eqTid; how it is read. -/
import Derived.Test.YtiepfdkfadbllaaMem
import Derived.Test.YtiepfdkfadbllaaRwSz
import Derived.Test.YtiepfdkfadbllaaBx
namespace Go.Proofs.Ytiepfdkfadbllaa
open Go.RowKit Go.Deep
set_option linter.unusedVariables false
set_option maxHeartbeats 400000 in
theorem toTid_any (e s : Int) (b : Bool) (w : World) :
    Calls Try.prog 71 #[.agg #[.int .i64 e, .int .i64 s, .bool b]] w fun r w' => r = .returned (.agg #[.int .i64 e, .int .i64 s, .bool b]) ∧ Below w.heap.size w w' := by
  go_enter Try.func71, Try.ntmps71
  go_wp2
  exact bodyPost_ret (v := .agg #[.int .i64 e, .int .i64 s, .bool b]) (by simp [results, Try.results71, go_sem]) rfl ⟨rfl, (by repeat (first | refine Below.setCell ?_ (by (try simp) <;> omega) _ | refine Below.alloc ?_ (by (try simp) <;> omega) _ | refine Below.drew ?_ | assumption | exact Below.refl _ _ | refine Below.trans ?_ (Below.mono (by assumption) (by (try simp) <;> omega))))⟩
set_option maxHeartbeats 400000 in
theorem eqTid_same (e s : Int) (b : Bool) (w : World) :
    Calls Try.prog 75 #[.agg #[.int .i64 e, .int .i64 s, .bool b], .agg #[.int .i64 e, .int .i64 s, .bool b]] w fun r w' => r = .returned (.bool true) ∧ Below w.heap.size w w' := by
  go_enter Try.func75, Try.ntmps75
  go_wp2
  go_ret
  exact ⟨rfl, (by repeat (first | refine Below.setCell ?_ (by (try simp) <;> omega) _ | refine Below.alloc ?_ (by (try simp) <;> omega) _ | refine Below.drew ?_ | assumption | exact Below.refl _ _ | refine Below.trans ?_ (Below.mono (by assumption) (by (try simp) <;> omega))))⟩
theorem cells_lawsTid : Try.prog.cellsOf 75 = 3 := by kernel_rfl
theorem read_tid {H : Type} {enc : TypeId × Value → H} {w : World} {sp : Nat → Bool} {hd : Bool} {n : Nat} {cs : List Value} {y : DataW H × List MemPlace} (h : DataW.trod enc Try.prog w 0 sp hd n 75 cs = some y) :
    ∃ q : Int × Int × Bool, cs = [.int .i64 q.1, .int .i64 q.2.1, .bool q.2.2] := by
  obtain ⟨y0, y1, y2, m, _, hl, h0, h1, h2⟩ := trod_struct3 Try.underlying75 h
  rw [cells_lawsTid] at hl
  obtain ⟨v0, v1, v2, rfl⟩ := list3 hl
  obtain ⟨e, q0, _⟩ := DataW.trod_int Try.underlying3 h0
  obtain ⟨s, q1, _⟩ := DataW.trod_int Try.underlying3 h1
  obtain ⟨b, q2, _⟩ := DataW.trod_bool Try.underlying4 h2
  simp [cells_int, cells_bool] at q0 q1 q2
  exact ⟨(e, s, b), by simp [q0, q1, q2]⟩
end Go.Proofs.Ytiepfdkfadbllaa
