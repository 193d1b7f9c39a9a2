/- '==' of two versions (a key and its tid). -/
import Derived.Test.YtiepfdkfadbllaaEqT
namespace Go.Proofs.Ytiepfdkfadbllaa
open Go.RowKit
set_option linter.unusedVariables false

def verE (k : ByteArray) (e s : Int) (b : Bool) (k' : ByteArray) (e' s' : Int) (b' : Bool) : Bool := k.toList == k'.toList && tidE e s b e' s' b'
set_option maxHeartbeats 1000000 in
theorem run_eqVer (k : ByteArray) (e s : Int) (b : Bool) (k' : ByteArray) (e' s' : Int) (b' : Bool) (w : World) :
    (binOp .eql 72 (.agg #[.string k, .int .i64 e, .int .i64 s, .bool b]) (.agg #[.string k', .int .i64 e', .int .i64 s', .bool b'])).run Try.prog w = .ok (.bool (verE k e s b k' e' s' b')) w := by
  have u1 := Try.underlying9
  have hS : Try.prog.underlying 72 = some (.struct (Try.prog.fieldsOf 72)) := by kernel_rfl
  have hp : Try.prog.stoodInHeld 72 = false := by kernel_rfl
  have p0 : (Go.part 9 #[.string k, .int .i64 e, .int .i64 s, .bool b] 0).run Try.prog w = .ok (.string k) w := by kernel_rfl
  have p1 : (Go.part 31 #[.string k, .int .i64 e, .int .i64 s, .bool b] 1).run Try.prog w = .ok (.agg #[.int .i64 e, .int .i64 s, .bool b]) w := by kernel_rfl
  have q0 : (Go.part 9 #[.string k', .int .i64 e', .int .i64 s', .bool b'] 0).run Try.prog w = .ok (.string k') w := by kernel_rfl
  have q1 : (Go.part 31 #[.string k', .int .i64 e', .int .i64 s', .bool b'] 1).run Try.prog w = .ok (.agg #[.int .i64 e', .int .i64 s', .bool b']) w := by kernel_rfl
  rw [run_eql_struct, show (10000 : Nat) = 9999 + 1 from rfl, run_equalIn_agg w 9999 _ _ _ hS hp]
  simp only [Program.fieldsOf, Try.underlying72]
  simp only [Op.eqFields, Sem.run_bind, Sem.run_ite, p0, p1, q0, q1, Result.andThen_ok, show (9999 : Nat) = 9997 + 2 from rfl, equal_tid 9997, run_equalIn_string w 9998 9 _ _ u1]
  cases h0 : k.toList == k'.toList <;> cases h1 : tidE e s b e' s' b' <;> simp [verE, h0, h1]
end Go.Proofs.Ytiepfdkfadbllaa
