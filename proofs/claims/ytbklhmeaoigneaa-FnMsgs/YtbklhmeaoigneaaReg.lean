/- Operations of a drawn region that are taken first, one by one, by laws on the operation alone. -/
import Derived.Test.YtbklhmeaoigneaaRdM
import Derived.Deep.RegionHeld3
namespace Go.Proofs.Ytbklhmeaoigneaa
open Go.RowKit
set_option linter.unusedVariables false

def opA (ops : Array Oper) (i : Nat) : Oper := ops.getD i { dst := none, op := .move (.const undef), type := 0, pos := "", after := #[], guard := none }
theorem take_h {P : Program} {ops : Array Oper} {Q : Exit → Act → World → Prop} {md : Region.Mode} {S : World → Prop} {fuel : Nat} {listed : Array Bool} {a : Act} {w : World} (i : Nat) (d : Option Tmp) (v : Value)
    (hi : ops[i]? = some (opA ops i)) (hs : Region.noSelect ops = true) (hf : Region.free md ops listed i = true) (hr : (Region.ready md ops listed).contains i = true) (hQ : ∀ c a w, ¬ Q (.panic c) a w)
    (hg : (opA ops i).guard = none) (hd : (opA ops i).dst = d) (hx : ∀ W, S W → (execOp a.eval (opA ops i)).run P W = .ok (.value v) W) (hS : S w)
    (h : wpAnyH P md ops Q S fuel (listed.setIfInBounds i true) (a.put d v) w) : wpAnyH P md ops Q S (fuel + 1) listed a w := by
  subst hd
  exact wpAnyH_take hi hs hf hr (fun c a w h => absurd h (hQ c _ w)) (Or.inl ⟨by simp [Region.wanted, hg], hx⟩) hS h
section
variable {P : Program} {ev : Operand → Value} {o : Oper} {S : World → Prop}
theorem hx_move {x : Operand} {v : Value} (ho : o.op = .move x) (hv : ev x = v) : ∀ W, S W → (execOp ev o).run P W = .ok (.value v) W := by
  intro W _; simp [execOp, ho, hv]
theorem hx_index {t : TypeId} {x ix : Operand} {u1 u2 v : Value} (ho : o.op = .index t x ix) (h1 : ev x = u1) (h2 : ev ix = u2) (hr : ∀ W, (Instr.index t u1 u2).run P W = .ok v W) : ∀ W, S W → (execOp ev o).run P W = .ok (.value v) W := by
  intro W _; simp [execOp, ho, h1, h2, hr]
theorem hx_conv {src dst : TypeId} {x : Operand} {u v : Value} (ho : o.op = .convert src dst x) (h1 : ev x = u) (hr : ∀ W, (convert src dst u).run P W = .ok v W) : ∀ W, S W → (execOp ev o).run P W = .ok (.value v) W := by
  intro W _; simp [execOp, ho, h1, hr]
theorem hx_slice {t : TypeId} {x lo hi : Operand} {u1 u2 u3 v : Value} (ho : o.op = .slice t x (some lo) (some hi) none) (h1 : ev x = u1) (h2 : ev lo = u2) (h3 : ev hi = u3) (hr : ∀ W, (Instr.sliceAt t u1 (some u2) (some u3) none).run P W = .ok v W) : ∀ W, S W → (execOp ev o).run P W = .ok (.value v) W := by
  intro W _; simp [execOp, ho, h1, h2, h3, hr]
theorem hx_bin {op : BinOp} {t t' : TypeId} {x y : Operand} {u1 u2 v : Value} (ho : o.op = .binOp op t x y t') (h1 : ev x = u1) (h2 : ev y = u2) (hr : ∀ W, ((do eqGuard op t x y u1 u2; binOp op t u1 u2) : Sem Value).run P W = .ok v W) : ∀ W, S W → (execOp ev o).run P W = .ok (.value v) W := by
  intro W _
  have := hr W
  simp only [execOp, ho, h1, h2, Sem.run_bind, Sem.run_pure] at this ⊢
  rw [this]; rfl
theorem hx_load {t : TypeId} {x : Operand} {u v : Value} (ho : o.op = .load t x) (h1 : ev x = u) (hr : ∀ W, S W → (Instr.loadAt t u).run P W = .ok v W) : ∀ W, S W → (execOp ev o).run P W = .ok (.value v) W := by
  intro W h; simp [execOp, ho, h1, hr W h]
theorem hx_build {t : TypeId} {parts : Array (Nat × Operand)} {us : Array (Nat × Value)} {v : Value} (ho : o.op = .build t parts) (h1 : (parts.map fun (i, x) => (i, ev x)) = us) (hr : ∀ W, (Instr.build t us).run P W = .ok v W) : ∀ W, S W → (execOp ev o).run P W = .ok (.value v) W := by
  intro W _; simp only [execOp, ho, h1]; simp [hr]
end
theorem rc_conv (b : Nat) (h : b ≤ 255) (W : World) : (convert 5 3 (.int .u8 (b : Int))).run Try.prog W = .ok (.int .i64 (b : Int)) W := by
  have h1 : ((b : Nat) : Int) ≤ 255 := by omega
  have h3 : IntKind.i64.wrap (b : Int) = (b : Int) := by rw [IntKind.wrap_i64]; omega
  simp [go_sem, h3]
theorem rc_slice (s : ByteArray) (i j : Nat) (h1 : i ≤ j) (h2 : j ≤ s.size) (W : World) : (Instr.sliceAt 9 (.string s) (some (.int .i64 (i : Int))) (some (.int .i64 (j : Int))) none).run Try.prog W = .ok (.string (s.extract i j)) W := by
  have h := run_slice_string (P := Try.prog) W 9 s .i64 .i64 (i : Int) (j : Int) Try.underlying9 (by omega) (by omega) (by omega)
  simp only [Int.toNat_natCast] at h
  simp [go_sem, h]

theorem rc_shl (b : Nat) (h : b ≤ 255) (x y : Operand) (W : World) : ((do eqGuard BinOp.shl 3 x y (.int .i64 (b : Int)) (.int .u64 8); binOp BinOp.shl 3 (.int .i64 (b : Int)) (.int .u64 8)) : Sem Value).run Try.prog W = .ok (.int .i64 ((b * 256 : Nat) : Int)) W := by
  have h3 : IntKind.i64.wrap ((b : Int) * 256) = ((b * 256 : Nat) : Int) := by rw [IntKind.wrap_i64]; omega
  simp [go_sem, h3]
theorem rc_or (b c : Nat) (hb : b ≤ 255) (hc : c ≤ 255) (x y : Operand) (W : World) : ((do eqGuard BinOp.or 3 x y (.int .i64 ((b * 256 : Nat) : Int)) (.int .i64 (c : Int)); binOp BinOp.or 3 (.int .i64 ((b * 256 : Nat) : Int)) (.int .i64 (c : Int))) : Sem Value).run Try.prog W = .ok (.int .i64 (bits BinOp.or .i64 ((b * 256 : Nat) : Int) (c : Int))) W := by
  simp [go_sem]
theorem rc_add (k : Nat) (h : k ≤ 1000000) (x y : Operand) (W : World) : ((do eqGuard BinOp.add 3 x y (.int .i64 (k : Int)) (.int .i64 1); binOp BinOp.add 3 (.int .i64 (k : Int)) (.int .i64 1)) : Sem Value).run Try.prog W = .ok (.int .i64 ((k + 1 : Nat) : Int)) W := by
  have h3 : IntKind.i64.wrap ((k : Int) + 1) = ((k + 1 : Nat) : Int) := by rw [IntKind.wrap_i64]; omega
  simp [go_sem, h3]
theorem rc_load (g : Nat) (e t : Int) (b : Bool) (W : World) (h0 : W.cell? ⟨g, 0, none⟩ = some (.int .i64 e)) (h1 : W.cell? ⟨g, 1, none⟩ = some (.int .i64 t)) (h2 : W.cell? ⟨g, 2, none⟩ = some (.bool b)) : (Instr.loadAt 24 (.pointer (some ⟨g, 0, none⟩))).run Try.prog W = .ok (.agg #[.int .i64 e, .int .i64 t, .bool b]) W := by
  simp [go_sem, h0, h1, h2]
theorem rc_build (k0 k1 k2 k3 : Int) (key val : ByteArray) (e t : Int) (b : Bool) (W : World) : (Instr.build 43 #[(0, .int .i64 k0), (1, .int .i64 k1), (2, .int .i64 k2), (3, .int .i64 k3), (4, .string key), (5, .string val), (6, .agg #[.int .i64 e, .int .i64 t, .bool b])]).run Try.prog W = .ok (.agg #[.int .i64 k0, .int .i64 k1, .int .i64 k2, .int .i64 k3, .string key, .string val, .int .i64 e, .int .i64 t, .bool b]) W := by
  simp [go_sem]
theorem or_i64 (b c : Nat) (hb : b ≤ 255) (hc : c ≤ 255) : bits BinOp.or .i64 ((b * 256 : Nat) : Int) (c : Int) = ((b * 256 + c : Nat) : Int) := by
  have e1 : (BitVec.ofInt 64 ((b * 256 : Nat) : Int)).toNat = b * 256 := by
    rw [BitVec.ofInt_natCast, BitVec.toNat_ofNat]; exact Nat.mod_eq_of_lt (by omega)
  have e2 : (BitVec.ofInt 64 (c : Int)).toNat = c := by
    rw [BitVec.ofInt_natCast, BitVec.toNat_ofNat]; exact Nat.mod_eq_of_lt (by omega)
  show IntKind.i64.wrap ((BitVec.ofInt 64 ((b * 256 : Nat) : Int) ||| BitVec.ofInt 64 (c : Int)).toNat : Int) = _
  rw [BitVec.toNat_or, e1, e2, or_shift b c (by omega) (by omega), IntKind.wrap_i64]
  omega
end Go.Proofs.Ytbklhmeaoigneaa
