/- What the bytes of a message come to, in plain Lean. -/
import Derived.Test.YtbklhmeaoigneaaRd2
namespace Go.Proofs.Ytbklhmeaoigneaa
open Go.RowKit
set_option linter.unusedVariables false

theorem or_shift (a b : Nat) (ha : a < 256) (hb : b < 256) : a * 256 ||| b = a * 256 + b := by
  have := Nat.shiftLeft_add_eq_or_of_lt (i := 8) (show b < 2 ^ 8 by omega) a
  rw [Nat.shiftLeft_eq] at this
  exact this.symm
theorem rdStep_zero (c : UInt8) : rdStep 0 c = (c.toNat : Int) := by
  have h := bits_or_u64_nat 0 c.toNat (by omega) (by have := c.toNat_lt; omega)
  rw [Nat.zero_or] at h
  exact h
theorem rdStep_two (a : Nat) (c : UInt8) (ha : a < 256) : rdStep (a : Int) c = ((a * 256 + c.toNat : Nat) : Int) := by
  have hc := c.toNat_lt
  have h := bits_or_u64_nat (a * 256) c.toNat (by omega) (by omega)
  rw [or_shift a c.toNat ha (by omega)] at h
  have e : IntKind.u64.wrap ((a : Int) * 256) = ((a * 256 : Nat) : Int) := by rw [IntKind.wrap_u64]; omega
  unfold rdStep; rw [e]; exact h
theorem rdN_two (s : ByteArray) (o : Nat) : rdN s o 2 = ((b8 s o * 256 + b8 s (o + 1) : Nat) : Int) := by
  show rdStep (rdStep 0 (s.data.toList.getD (o + 0) 0)) (s.data.toList.getD (o + 1) 0) = _
  rw [rdStep_zero, rdStep_two _ _ (by have := (s.data.toList.getD (o + 0) 0).toNat_lt; omega)]
  rfl
theorem rdN_two_bd (s : ByteArray) (o : Nat) : 0 ≤ rdN s o 2 ∧ rdN s o 2 ≤ 65535 := by
  rw [rdN_two]; have h1 := b8_bd s o; have h2 := b8_bd s (o + 1); omega
theorem extract_getD (s : ByteArray) (a b k : Nat) (hb : b ≤ s.size) (hk : a + k < b) : (s.extract a b).data.toList.getD k 0 = s.data.toList.getD (a + k) 0 := by
  have hsz : (s.extract a b).size = b - a := by rw [ByteArray.size_extract]; omega
  rw [byte_at _ k (by omega), byte_at s (a + k) (by omega)]
  exact ByteArray.getElem_extract _
theorem rdN_extract (s : ByteArray) (a b : Nat) (hb : b ≤ s.size) : ∀ k, a + k ≤ b → rdN (s.extract a b) 0 k = rdN s a k
  | 0, _ => rfl
  | k + 1, h => by
    show rdStep (rdN (s.extract a b) 0 k) ((s.extract a b).data.toList.getD (0 + k) 0) = rdStep (rdN s a k) (s.data.toList.getD (a + k) 0)
    rw [rdN_extract s a b hb k (by omega), Nat.zero_add, extract_getD s a b k hb (by omega)]

def rK (s : ByteArray) : Nat := 14 + b8 s 13
def rEnd (s : ByteArray) : Nat := rK s + 1 + b8 s (rK s)
def rKey (s : ByteArray) : ByteArray := s.extract 14 (rK s)
def rVal (s : ByteArray) : ByteArray := s.extract (rK s + 1) (rEnd s)
def rE (s : ByteArray) : Int := rdN s 5 8 / 33554432
def rGood (s : ByteArray) : Bool := decide (14 ≤ s.size) && decide (rdN s 5 8 < 35184372088832) && decide (rK s < s.size) && decide (rEnd s ≤ s.size) &&
  goodM (b8 s 0) (b8 s 1) (b8 s 2) (rdN s 3 2) (rKey s) (rVal s) (rE s) (unS (rdN s 5 8))
theorem rGood_parts {s : ByteArray} (h : rGood s = true) : 14 ≤ s.size ∧ rdN s 5 8 < 35184372088832 ∧ rK s < s.size ∧ rEnd s ≤ s.size ∧
    goodM (b8 s 0) (b8 s 1) (b8 s 2) (rdN s 3 2) (rKey s) (rVal s) (rE s) (unS (rdN s 5 8)) = true := by
  simp only [rGood, Bool.and_eq_true, decide_eq_true_eq] at h
  exact ⟨h.1.1.1.1, h.1.1.1.2, h.1.1.2, h.1.2, h.2⟩

/-- What the answer holds: of bytes that hold no message nothing. -/
def mI (s : ByteArray) (x : Int) : Int := if rGood s then x else 0
def mS (s : ByteArray) (t : ByteArray) : ByteArray := if rGood s then t else ⟨#[]⟩
def rAgg (s : ByteArray) : Array Value := #[.int .i64 (mI s (b8 s 0)), .int .i64 (mI s (b8 s 1)), .int .i64 (mI s (b8 s 2)), .int .i64 (mI s (rdN s 3 2)), .string (mS s (rKey s)), .string (mS s (rVal s)), .int .i64 (mI s (rE s)), .int .i64 (mI s (unS (rdN s 5 8))), .bool (rGood s && unL (rdN s 5 8))]
theorem ans_no {s : ByteArray} (h : rGood s = false) : Ending.returned (.tuple #[.agg #[.int .i64 0, .int .i64 0, .int .i64 0, .int .i64 0, .string ⟨#[]⟩, .string ⟨#[]⟩, .int .i64 0, .int .i64 0, .bool false], .int .i64 0]) = .returned (.tuple #[.agg (rAgg s), .int .i64 (mI s (rEnd s))]) := by
  simp [rAgg, mI, mS, h]
theorem ans_yes {s : ByteArray} (h : rGood s = true) : Ending.returned (.tuple #[.agg #[.int .i64 (b8 s 0), .int .i64 (b8 s 1), .int .i64 (b8 s 2), .int .i64 (rdN s 3 2), .string (rKey s), .string (rVal s), .int .i64 (rE s), .int .i64 (unS (rdN s 5 8)), .bool (unL (rdN s 5 8))], .int .i64 (rEnd s)]) = .returned (.tuple #[.agg (rAgg s), .int .i64 (mI s (rEnd s))]) := by
  simp [rAgg, mI, mS, h]
theorem no13 {s : ByteArray} (h : s.size < 14) : rGood s = false := by
  have : ¬ 14 ≤ s.size := by omega
  simp [rGood, this]
theorem noX {s : ByteArray} (h : ¬ rdN s 5 8 < 35184372088832) : rGood s = false := by simp [rGood, h]
theorem noK {s : ByteArray} (h : ¬ rK s < s.size) : rGood s = false := by simp [rGood, h]
theorem noE {s : ByteArray} (h : ¬ rEnd s ≤ s.size) : rGood s = false := by simp [rGood, h]
theorem noG {s : ByteArray} (h : goodM (b8 s 0) (b8 s 1) (b8 s 2) (rdN s 3 2) (rKey s) (rVal s) (rE s) (unS (rdN s 5 8)) = false) : rGood s = false := by simp [rGood, h]
theorem yesG {s : ByteArray} (h1 : 14 ≤ s.size) (h2 : rdN s 5 8 < 35184372088832) (h3 : rK s < s.size) (h4 : rEnd s ≤ s.size) (h : goodM (b8 s 0) (b8 s 1) (b8 s 2) (rdN s 3 2) (rKey s) (rVal s) (rE s) (unS (rdN s 5 8)) = true) : rGood s = true := by simp [rGood, h1, h2, h3, h4, h]
end Go.Proofs.Ytbklhmeaoigneaa
