/- '==' of two tids. -/
import Derived.Test.YtiepfdkfadbllaaTvI
import Derived.Laws.StructEq
namespace Go.Proofs.Ytiepfdkfadbllaa
open Go.RowKit
set_option linter.unusedVariables false

def tidE (e s : Int) (b : Bool) (e' s' : Int) (b' : Bool) : Bool := e == e' && (s == s' && b == b')
set_option maxHeartbeats 1000000 in
theorem equal_tid (d : Nat) (e s : Int) (b : Bool) (e' s' : Int) (b' : Bool) (w : World) :
    (Op.equalIn (d + 2) 31 (.agg #[.int .i64 e, .int .i64 s, .bool b]) (.agg #[.int .i64 e', .int .i64 s', .bool b'])).run Try.prog w = .ok (tidE e s b e' s' b') w := by
  have u1 := Try.underlying3
  have u2 := Try.underlying4
  have hS : Try.prog.underlying 31 = some (.struct (Try.prog.fieldsOf 31)) := by kernel_rfl
  have hp : Try.prog.stoodInHeld 31 = false := by kernel_rfl
  have p0 : (Go.part 3 #[.int .i64 e, .int .i64 s, .bool b] 0).run Try.prog w = .ok (.int .i64 e) w := by kernel_rfl
  have p1 : (Go.part 3 #[.int .i64 e, .int .i64 s, .bool b] 1).run Try.prog w = .ok (.int .i64 s) w := by kernel_rfl
  have p2 : (Go.part 4 #[.int .i64 e, .int .i64 s, .bool b] 2).run Try.prog w = .ok (.bool b) w := by kernel_rfl
  have q0 : (Go.part 3 #[.int .i64 e', .int .i64 s', .bool b'] 0).run Try.prog w = .ok (.int .i64 e') w := by kernel_rfl
  have q1 : (Go.part 3 #[.int .i64 e', .int .i64 s', .bool b'] 1).run Try.prog w = .ok (.int .i64 s') w := by kernel_rfl
  have q2 : (Go.part 4 #[.int .i64 e', .int .i64 s', .bool b'] 2).run Try.prog w = .ok (.bool b') w := by kernel_rfl
  rw [run_equalIn_agg w (d + 1) _ _ _ hS hp]
  simp only [Program.fieldsOf, Try.underlying31]
  simp only [Op.eqFields, Sem.run_bind, Sem.run_ite, p0, p1, p2, q0, q1, q2, Result.andThen_ok, run_equalIn_int w d 3 .i64 .i64 _ _ u1, run_equalIn_bool w d 4 _ _ u2]
  cases h0 : e == e' <;> cases h1 : s == s' <;> cases h2 : b == b' <;> simp [tidE, h0, h1, h2]
theorem run_eqTid (e s : Int) (b : Bool) (e' s' : Int) (b' : Bool) (w : World) :
    (binOp .eql 31 (.agg #[.int .i64 e, .int .i64 s, .bool b]) (.agg #[.int .i64 e', .int .i64 s', .bool b'])).run Try.prog w = .ok (.bool (tidE e s b e' s' b')) w := by
  rw [run_eql_struct, show (10000 : Nat) = 9998 + 2 from rfl, equal_tid]; rfl
theorem run_neTid (e s : Int) (b : Bool) (e' s' : Int) (b' : Bool) (w : World) :
    (binOp .neq 31 (.agg #[.int .i64 e, .int .i64 s, .bool b]) (.agg #[.int .i64 e', .int .i64 s', .bool b'])).run Try.prog w = .ok (.bool (!tidE e s b e' s' b')) w := by
  rw [run_neq_struct, show (10000 : Nat) = 9998 + 2 from rfl, equal_tid]; rfl
end Go.Proofs.Ytiepfdkfadbllaa
