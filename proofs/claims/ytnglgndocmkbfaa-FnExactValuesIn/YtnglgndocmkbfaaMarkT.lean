/- The law's own markText: a text for each number. -/
import Derived.Test.YtnglgndocmkbfaaProg
import Derived.Test.YtnglgndocmkbfaaMem
import Derived.WalkKit
import Derived.WalkSpells
import Derived.WalkLawsBesides
import Derived.Lib.AppendStr
import Derived.Lib.SlBytesRow
namespace Go.Proofs.Ytnglgndocmkbfaa
open Go.RowKit
set_option linter.unusedVariables false

/-- One byte as a text. -/
def oneB (y : Int) : ByteArray := ⟨[UInt8.ofNat (y % 256).toNat].toArray⟩
theorem oneB_size (y : Int) : (oneB y).size = 1 := rfl
theorem oneB_byte (y : Int) (h0 : 0 ≤ y) (h1 : y ≤ 255) : y = ((UInt8.ofNat (y % 256).toNat).toNat : Int) := by
  rw [UInt8.toNat_ofNat_of_lt' (by simp; omega)]; omega
theorem conv1 (W : World) (y : Int) (h0 : 0 ≤ y) (h1 : y ≤ 255) :
    (convert 22 9 (.slice (some ⟨W.heap.size, 0, none⟩) 1 1)).run Try.prog (W.alloc (.cells #[.int .u8 y] 5)) = .ok (.string (oneB y)) (W.alloc (.cells #[.int .u8 y] 5)) := by
  refine Lib.run_convert_whole _ 22 5 9 Try.underlying22 Try.underlying5 Try.underlying9 W.heap.size 0 (oneB y) (fun i hi => ?_) 1
  have hi0 : i = 0 := by have : i < 1 := hi; omega
  subst hi0
  rw [World.cell?_alloc_new]
  show some (Value.int .u8 y) = some (Value.int .u8 ((UInt8.ofNat (y % 256).toNat).toNat : Int))
  rw [← oneB_byte y h0 h1]

/-- The digits of k ahead of a text. -/
def digs : Nat → Nat → ByteArray → ByteArray
  | 0, _, out => out
  | f + 1, k, out => if k = 0 then out else digs f (k / 10) (oneB (48 + (k : Int) % 10) ++ out)
def mtx (q : Int) : ByteArray := if q ≤ 0 then ⟨[109, 48].toArray⟩ else ⟨[109].toArray⟩ ++ digs q.toNat q.toNat ⟨#[]⟩
theorem digs_zero (f : Nat) (out : ByteArray) : digs f 0 out = out := by cases f <;> rfl
theorem digs_step {f k : Nat} {out : ByteArray} (hk : 0 < k) (hf : k ≤ f) : ∃ f', k / 10 ≤ f' ∧ digs f k out = digs f' (k / 10) (oneB (48 + (k : Int) % 10) ++ out) := by
  cases f with
  | zero => omega
  | succ f => exact ⟨f, by omega, by simp only [digs, if_neg (show ¬ k = 0 by omega)]⟩

theorem dig_size {k s : Nat} (hk : 0 < k) (h : k * 10 ^ s ≤ 8796093022208) : s ≤ 12 := by
  rcases Nat.lt_or_ge 12 s with g | g
  · have h1 : 10 ^ 13 ≤ 10 ^ s := Nat.pow_le_pow_right (by omega) g
    have h2 : 1 * 10 ^ s ≤ k * 10 ^ s := Nat.mul_le_mul_right _ hk
    have h3 : (10 : Nat) ^ 13 = 10000000000000 := by decide
    omega
  · exact g
theorem dig_next {k s : Nat} (h : k * 10 ^ s ≤ 8796093022208) : k / 10 * 10 ^ (s + 1) ≤ 8796093022208 := by
  have h1 : k / 10 * 10 ≤ k := Nat.div_mul_le_self k 10
  have h2 : k / 10 * 10 * 10 ^ s ≤ k * 10 ^ s := Nat.mul_le_mul_right _ h1
  have h3 : k / 10 * 10 ^ (s + 1) = k / 10 * 10 * 10 ^ s := by rw [Nat.pow_succ, Nat.mul_comm (10 ^ s) 10, Nat.mul_assoc]
  omega

set_option maxRecDepth 100000 in
set_option maxHeartbeats 2000000 in
theorem markText_any (q : Int) (w : World) (h0 : 0 < q) (h1 : q ≤ 8796093022208) :
    Calls Try.prog 108 #[.int .i64 q] w fun r w' => r = .returned (.string (mtx q)) ∧ Below w.heap.size w w' := by
  have HM : Hid (mtx q = ⟨[109].toArray⟩ ++ digs q.toNat q.toNat ⟨#[]⟩) := by show mtx q = _; simp [mtx, show ¬ q ≤ 0 by omega]
  have hq : ¬ q ≤ 0 := by omega
  go_enter Try.func108, Try.ntmps108
  go_wp2
  go_loopw [0, 3] (fun i v wr => ∃ (k f : Nat) (out : ByteArray), k ≤ f ∧ i = .int .i64 k ∧ v = .string out ∧ digs f k out = digs q.toNat q.toNat ⟨#[]⟩ ∧ out.size ≤ 13 ∧ k * 10 ^ out.size ≤ 8796093022208 ∧ Below w.heap.size w wr) (fun i _ _ => (intOf i).toNat)
  case atStart => exact ⟨q.toNat, q.toNat, ⟨#[]⟩, Nat.le_refl _, by congr 1; omega, rfl, rfl, by decide, by show q.toNat * 10 ^ 0 ≤ _; omega, Below.refl _ _⟩
  case round =>
    obtain ⟨k, f, out, hf, rfl, rfl, hd, hs, hp, hB⟩ := hrel
    rcases Nat.eq_zero_or_pos k with hk | hk
    · subst hk
      have HD : Hid (out = digs q.toNat q.toNat ⟨#[]⟩) := by show out = _; rw [← hd, digs_zero]
      have HB : Hid (Below w.heap.size w wr) := hB
      clear hd hB hp hf
      go_wp2
      go_ret
      exact ⟨by rw [HM.out, ← HD.out]; rfl, HB.out⟩
    · have hk' : (0 : Int) < (k : Int) := by omega
      have hs' := dig_size hk hp
      have hkb : (k : Int) ≤ 8796093022208 := by
        have : k ≤ k * 10 ^ out.size := Nat.le_mul_of_pos_right k (Nat.pow_pos (by omega))
        omega
      obtain ⟨f', hf', hst⟩ := digs_step (out := out) hk hf
      have HR : Hid (k / 10 ≤ f' ∧ digs f' (k / 10) (oneB (48 + (k : Int) % 10) ++ out) = digs q.toNat q.toNat ⟨#[]⟩ ∧ k / 10 * 10 ^ (out.size + 1) ≤ 8796093022208 ∧ Below w.heap.size w wr) := ⟨hf', by rw [← hst]; exact hd, dig_next hp, hB⟩
      clear hf' hst hd hp hB
      have c1 := conv1 wr (48 + (k : Int) % 10) (by omega) (by omega)
      have os := oneB_size (48 + (k : Int) % 10)
      generalize oneB (48 + (k : Int) % 10) = ob at *
      go_wp2
      have ocs : (ob ++ out).size = out.size + 1 := by rw [ByteArray.size_append, os]; omega
      refine ⟨⟨k / 10, f', ob ++ out, HR.out.1, by go_num, rfl, HR.out.2.1, by omega, by rw [ocs]; exact HR.out.2.2.1, HR.out.2.2.2.alloc HR.out.2.2.2.size _⟩, ?_⟩
      simp [intOf]; omega
end Go.Proofs.Ytnglgndocmkbfaa
