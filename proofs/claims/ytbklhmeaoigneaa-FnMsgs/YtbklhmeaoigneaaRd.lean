/- The contract of readWord: the word of a text's bytes, the highest first. -/
import Derived.Test.YtbklhmeaoigneaaMsgB
import Derived.WalkMore
import Derived.ScopeJumps
namespace Go.Proofs.Ytbklhmeaoigneaa
open Go.RowKit
set_option linter.unusedVariables false

def rdStep (x : Int) (c : UInt8) : Int := bits BinOp.or IntKind.u64 (IntKind.u64.wrap (x * 256)) (c.toNat : Int)
/-- The word of the k bytes from place o on. -/
def rdN (s : ByteArray) (o : Nat) : Nat → Int
  | 0 => 0
  | k + 1 => rdStep (rdN s o k) (s.data.toList.getD (o + k) 0)
theorem byte_at (s : ByteArray) (k : Nat) (h : k < s.size) : s.data.toList.getD k 0 = s[k] := by
  rw [List.getD_eq_getElem?_getD, List.getElem?_eq_getElem (by simpa using h)]; rfl
theorem rdN_bd (s : ByteArray) (o : Nat) : ∀ k, 0 ≤ rdN s o k ∧ rdN s o k ≤ 18446744073709551615
  | 0 => by simp [rdN]
  | k + 1 => by unfold rdN rdStep; exact bits_bd _ _ _

theorem rd_first (t : ByteArray) (h : 0 < t.size) : bits BinOp.or IntKind.u64 0 (t[0].toNat : Int) = rdN t 0 1 := by
  unfold rdN rdN rdStep; rw [Nat.add_zero, byte_at t 0 h]; rfl
theorem rd_next (t : ByteArray) (k : Nat) (h : k < t.size) : bits BinOp.or IntKind.u64 (IntKind.u64.wrap (rdN t 0 k * 256)) (t[k].toNat : Int) = rdN t 0 (k + 1) := by
  show _ = rdStep (rdN t 0 k) (t.data.toList.getD (0 + k) 0)
  rw [Nat.zero_add, byte_at t k h]; rfl
theorem byte_bd (c : UInt8) : (c.toNat : Int) ≤ 255 := by have := c.toNat_lt; omega
set_option maxHeartbeats 1000000 in
set_option maxRecDepth 100000 in
theorem readWord_any (t : ByteArray) (w : World) (hs : t.size ≤ 8) :
    Calls Try.prog 67 #[.string t] w fun r w' => r = .returned (.int .u64 (rdN t 0 t.size)) ∧ w' = w := by
  go_enter Try.func67, Try.ntmps67
  go_wp2
  refine wp_scope_jumps 0 (fun a' w' => w' = w ∧ ∃ (k : Nat) (u5 u6 u7 u8 u9 u10 u11 u12 u13 u14 u15 u16 u17 u18 : Value), a' = { tmps := #[.string t, undef, .int .u64 0, .int .u64 (rdN t 0 k), .int .i64 k, u5, u6, u7, u8, u9, u10, u11, u12, u13, u14, u15, u16, u17, u18], defers := [] } ∧ k ≤ t.size) (fun a' _ => t.size - (intOf (a'.tmps.getD 4 undef)).toNat) rfl ?_ ?_
  · by_cases h0 : t.size = 0
    · have HN : Hid (rdN t 0 t.size = 0) := by show rdN t 0 t.size = 0; rw [h0]; rfl
      have h0' : ((0 : Int) == (t.size : Int)) = true := by rw [h0]; rfl
      clear h0
      go_wp2
      go_step3
      go_wp2
      simp only [Exit.jump]
      go_ret
      exact ⟨by rw [HN.out]; rfl, rfl⟩
    · have h0' : ((0 : Int) == (t.size : Int)) = false := beq_eq_false_iff_ne.2 (by omega)
      have hp : (0 : Int) < (t.size : Int) := by omega
      have hb := byte_bd t[0]
      have E : Hid (bits BinOp.or IntKind.u64 0 (t[0].toNat : Int) = rdN t 0 1) := rd_first t (by omega)
      go_wp2
      go_step3
      go_wp2
      go_step3
      rw [E.out]
      exact ⟨rfl, rfl, 1, _, _, _, _, _, _, _, _, _, _, _, _, _, _, rfl, by omega⟩
  · rintro a' w' ⟨rfl, k, u5, u6, u7, u8, u9, u10, u11, u12, u13, u14, u15, u16, u17, u18, rfl, hk⟩
    have hbd := rdN_bd t 0 k
    by_cases hlt : k < t.size
    · have he : ((k : Int) == (t.size : Int)) = false := beq_eq_false_iff_ne.2 (by omega)
      have hb := byte_bd t[k]
      have hlt' : (k : Int) < (t.size : Int) := by omega
      have E : Hid (bits BinOp.or IntKind.u64 (IntKind.u64.wrap (rdN t 0 k * 256)) (t[k].toNat : Int) = rdN t 0 (k + 1)) := rd_next t k hlt
      go_wp2
      go_step3
      rw [E.out, show ((k : Int) + 1) = ((k + 1 : Nat) : Int) from by omega]
      refine ⟨rfl, ⟨rfl, k + 1, _, _, _, _, _, _, _, _, _, _, _, _, _, _, rfl, by omega⟩, ?_⟩
      simp [intOf]
      omega
    · have hkn : k = t.size := by omega
      have he : ((k : Int) == (t.size : Int)) = true := by rw [hkn]; simp
      have HK : Hid (k = t.size) := hkn
      clear hkn
      go_wp2
      simp only [Exit.jump]
      go_ret
      exact ⟨by rw [HK.out]; rfl, rfl⟩
end Go.Proofs.Ytbklhmeaoigneaa
