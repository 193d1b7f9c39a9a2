/- strings.Clone: the same text, in new memory. -/
import Derived.Test.YtnglgndocmkbfaaRows
import Derived.Shelf.Pu.Clone
import Derived.WalkKit
namespace Go.Proofs.Ytnglgndocmkbfaa
open Go.RowKit Go.Shelf
set_option linter.unusedVariables false
def ren : Ren := ⟨fun n => if n = 25 then 117 else n, fun t => if t = 3 then 3 else if t = 4 then 4 else if t = 5 then 5 else if t = 9 then 9 else if t = 37 then 22 else if t = 47 then 166 else if t = 0 then 0 else t, fun g => g⟩
theorem cl_f : Try.prog.funcs[ren.f 25]? = some (BodyPu.n25 ren) := by kernel_rfl
theorem cl_mixed : Try.prog.follows .mixedOrders = true := by kernel_rfl
theorem cl_i0 : (Try.prog.info? (ren.t 0)).map (fun i => (i.zero, i.size, i.bytes)) = some (some (Value.tuple #[]), 1, 0) := by kernel_rfl
theorem cl_t0 : Try.prog.underlying (ren.t 0) = some (TypeDesc.tuple #[]) := by kernel_rfl
theorem cl_a0 : ∀ w, (isAgg (ren.t 0)).run Try.prog w = .ok false w := fun w => by kernel_rfl
theorem cl_z0 : ∀ w, (Go.sizeOf (ren.t 0)).run Try.prog w = .ok 1 w := fun w => by kernel_rfl
theorem cl_v0 : ∀ w, (zeroValue (ren.t 0)).run Try.prog w = .ok (Value.tuple #[]) w := fun w => by kernel_rfl
theorem cl_i3 : (Try.prog.info? (ren.t 3)).map (fun i => (i.zero, i.size, i.bytes)) = some (some (Value.int IntKind.i64 0), 1, 8) := by kernel_rfl
theorem cl_t3 : Try.prog.underlying (ren.t 3) = some (TypeDesc.int IntKind.i64) := by kernel_rfl
theorem cl_a3 : ∀ w, (isAgg (ren.t 3)).run Try.prog w = .ok false w := fun w => by kernel_rfl
theorem cl_z3 : ∀ w, (Go.sizeOf (ren.t 3)).run Try.prog w = .ok 1 w := fun w => by kernel_rfl
theorem cl_v3 : ∀ w, (zeroValue (ren.t 3)).run Try.prog w = .ok (Value.int IntKind.i64 0) w := fun w => by kernel_rfl
theorem cl_i4 : (Try.prog.info? (ren.t 4)).map (fun i => (i.zero, i.size, i.bytes)) = some (some (Value.bool false), 1, 1) := by kernel_rfl
theorem cl_t4 : Try.prog.underlying (ren.t 4) = some (TypeDesc.bool) := by kernel_rfl
theorem cl_a4 : ∀ w, (isAgg (ren.t 4)).run Try.prog w = .ok false w := fun w => by kernel_rfl
theorem cl_z4 : ∀ w, (Go.sizeOf (ren.t 4)).run Try.prog w = .ok 1 w := fun w => by kernel_rfl
theorem cl_v4 : ∀ w, (zeroValue (ren.t 4)).run Try.prog w = .ok (Value.bool false) w := fun w => by kernel_rfl
theorem cl_i5 : (Try.prog.info? (ren.t 5)).map (fun i => (i.zero, i.size, i.bytes)) = some (some (Value.int IntKind.u8 0), 1, 1) := by kernel_rfl
theorem cl_t5 : Try.prog.underlying (ren.t 5) = some (TypeDesc.int IntKind.u8) := by kernel_rfl
theorem cl_a5 : ∀ w, (isAgg (ren.t 5)).run Try.prog w = .ok false w := fun w => by kernel_rfl
theorem cl_z5 : ∀ w, (Go.sizeOf (ren.t 5)).run Try.prog w = .ok 1 w := fun w => by kernel_rfl
theorem cl_v5 : ∀ w, (zeroValue (ren.t 5)).run Try.prog w = .ok (Value.int IntKind.u8 0) w := fun w => by kernel_rfl
theorem cl_i9 : (Try.prog.info? (ren.t 9)).map (fun i => (i.zero, i.size, i.bytes)) = some (some (Value.string { data := #[] }), 1, 16) := by kernel_rfl
theorem cl_t9 : Try.prog.underlying (ren.t 9) = some (TypeDesc.string) := by kernel_rfl
theorem cl_a9 : ∀ w, (isAgg (ren.t 9)).run Try.prog w = .ok false w := fun w => by kernel_rfl
theorem cl_z9 : ∀ w, (Go.sizeOf (ren.t 9)).run Try.prog w = .ok 1 w := fun w => by kernel_rfl
theorem cl_v9 : ∀ w, (zeroValue (ren.t 9)).run Try.prog w = .ok (Value.string { data := #[] }) w := fun w => by kernel_rfl
theorem cl_i37 : (Try.prog.info? (ren.t 37)).map (fun i => (i.zero, i.size, i.bytes)) = some (some (Value.slice none 0 0), 1, 24) := by kernel_rfl
theorem cl_t37 : Try.prog.underlying (ren.t 37) = some (TypeDesc.slice (ren.t 5)) := by kernel_rfl
theorem cl_a37 : ∀ w, (isAgg (ren.t 37)).run Try.prog w = .ok false w := fun w => by kernel_rfl
theorem cl_z37 : ∀ w, (Go.sizeOf (ren.t 37)).run Try.prog w = .ok 1 w := fun w => by kernel_rfl
theorem cl_v37 : ∀ w, (zeroValue (ren.t 37)).run Try.prog w = .ok (Value.slice none 0 0) w := fun w => by kernel_rfl
theorem cl_i47 : (Try.prog.info? (ren.t 47)).map (fun i => (i.zero, i.size, i.bytes)) = some (some (Value.pointer none), 1, 8) := by kernel_rfl
theorem cl_t47 : Try.prog.underlying (ren.t 47) = some (TypeDesc.pointer (ren.t 5)) := by kernel_rfl
theorem cl_a47 : ∀ w, (isAgg (ren.t 47)).run Try.prog w = .ok false w := fun w => by kernel_rfl
theorem cl_z47 : ∀ w, (Go.sizeOf (ren.t 47)).run Try.prog w = .ok 1 w := fun w => by kernel_rfl
theorem cl_v47 : ∀ w, (zeroValue (ren.t 47)).run Try.prog w = .ok (Value.pointer none) w := fun w => by kernel_rfl

theorem cl_lays : LaysPu.n25 Try.prog ren :=
  ⟨cl_mixed, cl_f, cl_t0, cl_a0, cl_z0, cl_v0, cl_i0, cl_t3, cl_a3, cl_z3, cl_v3, cl_i3, cl_t4, cl_a4, cl_z4, cl_v4, cl_i4, cl_t5, cl_a5, cl_z5, cl_v5, cl_i5, cl_t9, cl_a9, cl_z9, cl_v9, cl_i9, cl_t37, cl_a37, cl_z37, cl_v37, cl_i37, cl_t47, cl_a47, cl_z47, cl_v47, cl_i47⟩
theorem liteClone_any (s : ByteArray) (w : World) (hs : s.size ≤ 281474976710656) :
    Calls Try.prog 117 #[.string s] w fun e w' => e = .returned (.string s) ∧ Below w.heap.size w w' :=
  AnyPu.stringslite_Clone cl_lays s w hs
set_option maxHeartbeats 400000 in
theorem clone_any (s : ByteArray) (w : World) (hs : s.size ≤ 281474976710656) :
    Calls Try.prog 74 #[.string s] w fun e w' => e = .returned (.string s) ∧ Below w.heap.size w w' := by
  go_enter Try.func74, Try.ntmps74
  go_wp2_with (go_at_call 117; refine (liteClone_any _ _ hs).mono ?_; rintro r w1 ⟨rfl, hb⟩)
  go_ret
  exact ⟨rfl, hb⟩
end Go.Proofs.Ytnglgndocmkbfaa
