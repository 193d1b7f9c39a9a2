/- The contract of the law's own toMsg: a copy of the message. -/
import Derived.Test.YtbklhmeaoigneaaMsg
import Derived.Test.YtbklhmeaoigneaaMem
namespace Go.Proofs.Ytbklhmeaoigneaa
open Go.RowKit
set_option linter.unusedVariables false

set_option maxHeartbeats 8000000 in
theorem toMsg_any (kd fr to tx : Int) (key val : ByteArray) (e s : Int) (b : Bool) (w : World) :
    Calls Try.prog 44 #[.agg #[.int .i64 kd, .int .i64 fr, .int .i64 to, .int .i64 tx, .string key, .string val, .int .i64 e, .int .i64 s, .bool b]] w fun r w' => r = .returned (.agg #[.int .i64 kd, .int .i64 fr, .int .i64 to, .int .i64 tx, .string key, .string val, .int .i64 e, .int .i64 s, .bool b]) ∧ Below w.heap.size w w' := by
  go_enter Try.func44, Try.ntmps44
  go_wp2_with fail
  refine (toTid_any _ _ _ _).mono ?_
  rintro e w1 ⟨rfl, hb⟩
  have c0 : w1.cell? ⟨w.heap.size + 1 + 1, 0, none⟩ = some (.int .i64 kd) := by rw [hb.cell (p := ⟨w.heap.size + 1 + 1, 0, none⟩) (by simp)]; simp [go_sem]
  have f0 : w1.frozen? ⟨w.heap.size + 1 + 1, 0, none⟩ = false := by rw [hb.frozen (p := ⟨w.heap.size + 1 + 1, 0, none⟩) (by simp)]; simp [go_sem]
  have d0 : w1.cell? ⟨w.heap.size + 1, 0, none⟩ = some (.int .i64 0) := by rw [hb.cell (p := ⟨w.heap.size + 1, 0, none⟩) (by simp)]; simp [go_sem]
  have g0 : w1.frozen? ⟨w.heap.size + 1, 0, none⟩ = false := by rw [hb.frozen (p := ⟨w.heap.size + 1, 0, none⟩) (by simp)]; simp [go_sem]
  have c1 : w1.cell? ⟨w.heap.size + 1 + 1, 1, none⟩ = some (.int .i64 fr) := by rw [hb.cell (p := ⟨w.heap.size + 1 + 1, 1, none⟩) (by simp)]; simp [go_sem]
  have f1 : w1.frozen? ⟨w.heap.size + 1 + 1, 1, none⟩ = false := by rw [hb.frozen (p := ⟨w.heap.size + 1 + 1, 1, none⟩) (by simp)]; simp [go_sem]
  have d1 : w1.cell? ⟨w.heap.size + 1, 1, none⟩ = some (.int .i64 0) := by rw [hb.cell (p := ⟨w.heap.size + 1, 1, none⟩) (by simp)]; simp [go_sem]
  have g1 : w1.frozen? ⟨w.heap.size + 1, 1, none⟩ = false := by rw [hb.frozen (p := ⟨w.heap.size + 1, 1, none⟩) (by simp)]; simp [go_sem]
  have c2 : w1.cell? ⟨w.heap.size + 1 + 1, 2, none⟩ = some (.int .i64 to) := by rw [hb.cell (p := ⟨w.heap.size + 1 + 1, 2, none⟩) (by simp)]; simp [go_sem]
  have f2 : w1.frozen? ⟨w.heap.size + 1 + 1, 2, none⟩ = false := by rw [hb.frozen (p := ⟨w.heap.size + 1 + 1, 2, none⟩) (by simp)]; simp [go_sem]
  have d2 : w1.cell? ⟨w.heap.size + 1, 2, none⟩ = some (.int .i64 0) := by rw [hb.cell (p := ⟨w.heap.size + 1, 2, none⟩) (by simp)]; simp [go_sem]
  have g2 : w1.frozen? ⟨w.heap.size + 1, 2, none⟩ = false := by rw [hb.frozen (p := ⟨w.heap.size + 1, 2, none⟩) (by simp)]; simp [go_sem]
  have c3 : w1.cell? ⟨w.heap.size + 1 + 1, 3, none⟩ = some (.int .i64 tx) := by rw [hb.cell (p := ⟨w.heap.size + 1 + 1, 3, none⟩) (by simp)]; simp [go_sem]
  have f3 : w1.frozen? ⟨w.heap.size + 1 + 1, 3, none⟩ = false := by rw [hb.frozen (p := ⟨w.heap.size + 1 + 1, 3, none⟩) (by simp)]; simp [go_sem]
  have d3 : w1.cell? ⟨w.heap.size + 1, 3, none⟩ = some (.int .i64 0) := by rw [hb.cell (p := ⟨w.heap.size + 1, 3, none⟩) (by simp)]; simp [go_sem]
  have g3 : w1.frozen? ⟨w.heap.size + 1, 3, none⟩ = false := by rw [hb.frozen (p := ⟨w.heap.size + 1, 3, none⟩) (by simp)]; simp [go_sem]
  have c4 : w1.cell? ⟨w.heap.size + 1 + 1, 4, none⟩ = some (.string key) := by rw [hb.cell (p := ⟨w.heap.size + 1 + 1, 4, none⟩) (by simp)]; simp [go_sem]
  have f4 : w1.frozen? ⟨w.heap.size + 1 + 1, 4, none⟩ = false := by rw [hb.frozen (p := ⟨w.heap.size + 1 + 1, 4, none⟩) (by simp)]; simp [go_sem]
  have d4 : w1.cell? ⟨w.heap.size + 1, 4, none⟩ = some (.string ⟨#[]⟩) := by rw [hb.cell (p := ⟨w.heap.size + 1, 4, none⟩) (by simp)]; simp [go_sem]
  have g4 : w1.frozen? ⟨w.heap.size + 1, 4, none⟩ = false := by rw [hb.frozen (p := ⟨w.heap.size + 1, 4, none⟩) (by simp)]; simp [go_sem]
  have c5 : w1.cell? ⟨w.heap.size + 1 + 1, 5, none⟩ = some (.string val) := by rw [hb.cell (p := ⟨w.heap.size + 1 + 1, 5, none⟩) (by simp)]; simp [go_sem]
  have f5 : w1.frozen? ⟨w.heap.size + 1 + 1, 5, none⟩ = false := by rw [hb.frozen (p := ⟨w.heap.size + 1 + 1, 5, none⟩) (by simp)]; simp [go_sem]
  have d5 : w1.cell? ⟨w.heap.size + 1, 5, none⟩ = some (.string ⟨#[]⟩) := by rw [hb.cell (p := ⟨w.heap.size + 1, 5, none⟩) (by simp)]; simp [go_sem]
  have g5 : w1.frozen? ⟨w.heap.size + 1, 5, none⟩ = false := by rw [hb.frozen (p := ⟨w.heap.size + 1, 5, none⟩) (by simp)]; simp [go_sem]
  have c6 : w1.cell? ⟨w.heap.size + 1 + 1, 6, none⟩ = some (.int .i64 0) := by rw [hb.cell (p := ⟨w.heap.size + 1 + 1, 6, none⟩) (by simp)]; simp [go_sem]
  have f6 : w1.frozen? ⟨w.heap.size + 1 + 1, 6, none⟩ = false := by rw [hb.frozen (p := ⟨w.heap.size + 1 + 1, 6, none⟩) (by simp)]; simp [go_sem]
  have d6 : w1.cell? ⟨w.heap.size + 1, 6, none⟩ = some (.int .i64 0) := by rw [hb.cell (p := ⟨w.heap.size + 1, 6, none⟩) (by simp)]; simp [go_sem]
  have g6 : w1.frozen? ⟨w.heap.size + 1, 6, none⟩ = false := by rw [hb.frozen (p := ⟨w.heap.size + 1, 6, none⟩) (by simp)]; simp [go_sem]
  have c7 : w1.cell? ⟨w.heap.size + 1 + 1, 7, none⟩ = some (.int .i64 0) := by rw [hb.cell (p := ⟨w.heap.size + 1 + 1, 7, none⟩) (by simp)]; simp [go_sem]
  have f7 : w1.frozen? ⟨w.heap.size + 1 + 1, 7, none⟩ = false := by rw [hb.frozen (p := ⟨w.heap.size + 1 + 1, 7, none⟩) (by simp)]; simp [go_sem]
  have d7 : w1.cell? ⟨w.heap.size + 1, 7, none⟩ = some (.int .i64 0) := by rw [hb.cell (p := ⟨w.heap.size + 1, 7, none⟩) (by simp)]; simp [go_sem]
  have g7 : w1.frozen? ⟨w.heap.size + 1, 7, none⟩ = false := by rw [hb.frozen (p := ⟨w.heap.size + 1, 7, none⟩) (by simp)]; simp [go_sem]
  have c8 : w1.cell? ⟨w.heap.size + 1 + 1, 8, none⟩ = some (.bool false) := by rw [hb.cell (p := ⟨w.heap.size + 1 + 1, 8, none⟩) (by simp)]; simp [go_sem]
  have f8 : w1.frozen? ⟨w.heap.size + 1 + 1, 8, none⟩ = false := by rw [hb.frozen (p := ⟨w.heap.size + 1 + 1, 8, none⟩) (by simp)]; simp [go_sem]
  have d8 : w1.cell? ⟨w.heap.size + 1, 8, none⟩ = some (.bool false) := by rw [hb.cell (p := ⟨w.heap.size + 1, 8, none⟩) (by simp)]; simp [go_sem]
  have g8 : w1.frozen? ⟨w.heap.size + 1, 8, none⟩ = false := by rw [hb.frozen (p := ⟨w.heap.size + 1, 8, none⟩) (by simp)]; simp [go_sem]
  have HB : Hid (Below w.heap.size w w1) := (by repeat (first | refine Below.setCell ?_ (by (try simp) <;> omega) _ | refine Below.alloc ?_ (by (try simp) <;> omega) _ | refine Below.drew ?_ | assumption | exact Below.refl _ _ | refine Below.trans ?_ (Below.mono (by assumption) (by (try simp) <;> omega))))
  clear hb
  go_wp2
  have hB := HB.out
  exact bodyPost_ret (v := .agg #[.int .i64 kd, .int .i64 fr, .int .i64 to, .int .i64 tx, .string key, .string val, .int .i64 e, .int .i64 s, .bool b]) (by simp [results, Try.results44, go_sem, d0, d1, d2, d3, d4, d5, d6, d7, d8]) rfl ⟨rfl, (by repeat (first | refine Below.setCell ?_ (by (try simp) <;> omega) _ | refine Below.alloc ?_ (by (try simp) <;> omega) _ | refine Below.drew ?_ | assumption | exact Below.refl _ _ | refine Below.trans ?_ (Below.mono (by assumption) (by (try simp) <;> omega))))⟩
end Go.Proofs.Ytbklhmeaoigneaa
