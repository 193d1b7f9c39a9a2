/- The law's own markText: a text for each number. -/
import Derived.Test.YtkpobihpcnoemaaProg
import Derived.Test.YtkpobihpcnoemaaMem
import Derived.WalkKit
import Derived.WalkSpells
import Derived.WalkLawsBesides
import Derived.Lib.AppendStr
import Derived.Lib.SlBytesRow
namespace Go.Proofs.Ytkpobihpcnoemaa
open Go.RowKit
set_option linter.unusedVariables false

/-- One byte as a text. -/
def oneB (y : Int) : ByteArray := ⟨[UInt8.ofNat (y % 256).toNat].toArray⟩
theorem oneB_size (y : Int) : (oneB y).size = 1 := rfl
theorem oneB_byte (y : Int) (h0 : 0 ≤ y) (h1 : y ≤ 255) : y = ((UInt8.ofNat (y % 256).toNat).toNat : Int) := by
  rw [UInt8.toNat_ofNat_of_lt' (by simp; omega)]; omega
/-- The digits of k ahead of a text. -/
def digs : Nat → Nat → ByteArray → ByteArray
  | 0, _, out => out
  | f + 1, k, out => if k = 0 then out else digs f (k / 10) (oneB (48 + (k : Int) % 10) ++ out)
def mtx (q : Int) : ByteArray := if q ≤ 0 then ⟨[109, 48].toArray⟩ else ⟨[109].toArray⟩ ++ digs q.toNat q.toNat ⟨#[]⟩
theorem digs_zero (f : Nat) (out : ByteArray) : digs f 0 out = out := by cases f <;> rfl
theorem digs_step {f k : Nat} {out : ByteArray} (hk : 0 < k) (hf : k ≤ f) : ∃ f', k / 10 ≤ f' ∧ digs f k out = digs f' (k / 10) (oneB (48 + (k : Int) % 10) ++ out) := by
  cases f with
  | zero => omega
  | succ f => exact ⟨f, by omega, by simp only [digs, if_neg (show ¬ k = 0 by omega)]⟩

theorem dig_size {k s : Nat} (hk : 0 < k) (h : k * 10 ^ s ≤ 8796093022208) : s ≤ 12 := by
  rcases Nat.lt_or_ge 12 s with g | g
  · have h1 : 10 ^ 13 ≤ 10 ^ s := Nat.pow_le_pow_right (by omega) g
    have h2 : 1 * 10 ^ s ≤ k * 10 ^ s := Nat.mul_le_mul_right _ hk
    have h3 : (10 : Nat) ^ 13 = 10000000000000 := by decide
    omega
  · exact g
theorem dig_next {k s : Nat} (h : k * 10 ^ s ≤ 8796093022208) : k / 10 * 10 ^ (s + 1) ≤ 8796093022208 := by
  have h1 : k / 10 * 10 ≤ k := Nat.div_mul_le_self k 10
  have h2 : k / 10 * 10 * 10 ^ s ≤ k * 10 ^ s := Nat.mul_le_mul_right _ h1
  have h3 : k / 10 * 10 ^ (s + 1) = k / 10 * 10 * 10 ^ s := by rw [Nat.pow_succ, Nat.mul_comm (10 ^ s) 10, Nat.mul_assoc]
  omega

end Go.Proofs.Ytkpobihpcnoemaa
