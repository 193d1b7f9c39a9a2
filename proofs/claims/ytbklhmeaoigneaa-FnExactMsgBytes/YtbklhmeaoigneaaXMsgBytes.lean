/- At every message impl.MsgBytes answers as the specification does, and the argument reads behind the call as it read before. No condition. -/
import Derived.Test.YtbklhmeaoigneaaMsgB
import Derived.Test.YtbklhmeaoigneaaOpenMsg
import Derived.ProofKit
import Derived.OpenShut
import Derived.ShutString
import Derived.ChangeOld
import Derived.Below
import Derived.Lib.SmallJoins
namespace Go.Proofs.Ytbklhmeaoigneaa.xMsgBytes
open Go.ChangeShapes Go.WideShapes Go.ChangeAt Go.RowKit
open Go.ChangeMaps (open_string shut_string)
set_option linter.unusedVariables false

set_option maxHeartbeats 2000000 in
theorem walk (kd fr to tx : Int) (key val : ByteArray) (e s : Int) (b : Bool) (hk : key.size ≤ maxLen) (hv : val.size ≤ maxLen) (w : World) :
    Calls Try.prog 12 #[.agg #[.int .i64 kd, .int .i64 fr, .int .i64 to, .int .i64 tx, .string key, .string val, .int .i64 e, .int .i64 s, .bool b]] w fun r w' => r = .returned (.bool true) ∧ Below w.heap.size w w' := by
  go_enter Try.func12, Try.ntmps12
  go_wp2_with fail
  refine (szMsg_any _ _ _ _ _ _ _ _ _ _ _ hk hv (by omega) (by omega)).mono ?_
  rintro r w1 ⟨rfl, hb1⟩
  have c0 : w1.cell? ⟨w.heap.size, 0, none⟩ = some (.int .i64 kd) := (hb1.cell (p := ⟨w.heap.size, 0, none⟩) (by simp)).trans (by simp)
  have c1 : w1.cell? ⟨w.heap.size, 1, none⟩ = some (.int .i64 fr) := (hb1.cell (p := ⟨w.heap.size, 1, none⟩) (by simp)).trans (by simp)
  have c2 : w1.cell? ⟨w.heap.size, 2, none⟩ = some (.int .i64 to) := (hb1.cell (p := ⟨w.heap.size, 2, none⟩) (by simp)).trans (by simp)
  have c3 : w1.cell? ⟨w.heap.size, 3, none⟩ = some (.int .i64 tx) := (hb1.cell (p := ⟨w.heap.size, 3, none⟩) (by simp)).trans (by simp)
  have c4 : w1.cell? ⟨w.heap.size, 4, none⟩ = some (.string key) := (hb1.cell (p := ⟨w.heap.size, 4, none⟩) (by simp)).trans (by simp)
  have c5 : w1.cell? ⟨w.heap.size, 5, none⟩ = some (.string val) := (hb1.cell (p := ⟨w.heap.size, 5, none⟩) (by simp)).trans (by simp)
  have c6 : w1.cell? ⟨w.heap.size, 6, none⟩ = some (.int .i64 e) := (hb1.cell (p := ⟨w.heap.size, 6, none⟩) (by simp)).trans (by simp)
  have c7 : w1.cell? ⟨w.heap.size, 7, none⟩ = some (.int .i64 s) := (hb1.cell (p := ⟨w.heap.size, 7, none⟩) (by simp)).trans (by simp)
  have c8 : w1.cell? ⟨w.heap.size, 8, none⟩ = some (.bool b) := (hb1.cell (p := ⟨w.heap.size, 8, none⟩) (by simp)).trans (by simp)
  have hz1 : w.heap.size < w1.heap.size := by have := hb1.size; simp at this; omega
  have B1 : Hid (Below w.heap.size w w1) := (by repeat (first | refine Below.setCell ?_ (by (try simp) <;> omega) _ | refine Below.alloc ?_ (by (try simp) <;> omega) _ | refine Below.drew ?_ | assumption | exact Below.refl _ _ | refine Below.trans ?_ (Below.mono (by assumption) (by (try simp) <;> omega))))
  clear hb1
  by_cases hsz : szM 1048576 key.size val.size < 0
  · go_wp2
    go_ret
    exact ⟨rfl, B1.out⟩
  go_wp2_with fail
  refine (toMsg_any _ _ _ _ _ _ _ _ _ _).mono ?_
  rintro r w2 ⟨rfl, hb2⟩
  have d0 := (hb2.cell (p := ⟨w.heap.size, 0, none⟩) hz1).trans c0
  have d1 := (hb2.cell (p := ⟨w.heap.size, 1, none⟩) hz1).trans c1
  have d2 := (hb2.cell (p := ⟨w.heap.size, 2, none⟩) hz1).trans c2
  have d3 := (hb2.cell (p := ⟨w.heap.size, 3, none⟩) hz1).trans c3
  have d4 := (hb2.cell (p := ⟨w.heap.size, 4, none⟩) hz1).trans c4
  have d5 := (hb2.cell (p := ⟨w.heap.size, 5, none⟩) hz1).trans c5
  have d6 := (hb2.cell (p := ⟨w.heap.size, 6, none⟩) hz1).trans c6
  have d7 := (hb2.cell (p := ⟨w.heap.size, 7, none⟩) hz1).trans c7
  have d8 := (hb2.cell (p := ⟨w.heap.size, 8, none⟩) hz1).trans c8
  have hz2 : w.heap.size < w2.heap.size := Nat.lt_of_lt_of_le hz1 hb2.size
  have B2 : Hid (Below w.heap.size w w2) := B1.out.trans (hb2.mono (by omega))
  clear c0 c1 c2 c3 c4 c5 c6 c7 c8
  clear hb2 B1
  go_wp2_with fail
  cases hg : goodM kd fr to tx key val e s
  · skip
    refine (specMsgBytes_no _ _ _ _ _ _ _ _ _ _ hk hv hg).mono ?_
    rintro r w3 ⟨rfl, hb3⟩
    have c0 := (hb3.cell (p := ⟨w.heap.size, 0, none⟩) hz2).trans d0
    have c1 := (hb3.cell (p := ⟨w.heap.size, 1, none⟩) hz2).trans d1
    have c2 := (hb3.cell (p := ⟨w.heap.size, 2, none⟩) hz2).trans d2
    have c3 := (hb3.cell (p := ⟨w.heap.size, 3, none⟩) hz2).trans d3
    have c4 := (hb3.cell (p := ⟨w.heap.size, 4, none⟩) hz2).trans d4
    have c5 := (hb3.cell (p := ⟨w.heap.size, 5, none⟩) hz2).trans d5
    have c6 := (hb3.cell (p := ⟨w.heap.size, 6, none⟩) hz2).trans d6
    have c7 := (hb3.cell (p := ⟨w.heap.size, 7, none⟩) hz2).trans d7
    have c8 := (hb3.cell (p := ⟨w.heap.size, 8, none⟩) hz2).trans d8
    have hz3 : w.heap.size < w3.heap.size := Nat.lt_of_lt_of_le hz2 hb3.size
    have B3 : Hid (Below w.heap.size w w3) := B2.out.trans (hb3.mono (by omega))
    clear d0 d1 d2 d3 d4 d5 d6 d7 d8
    clear hb3 B2
    go_wp2_with fail
    refine (toMsg_any _ _ _ _ _ _ _ _ _ _).mono ?_
    rintro r w4 ⟨rfl, hb4⟩
    clear c0 c1 c2 c3 c4 c5 c6 c7 c8
    have B4 : Hid (Below w.heap.size w w4) := B3.out.trans (hb4.mono (by omega))
    clear hb4 B3
    go_wp2_with fail
    refine (msgBytes_no _ _ _ _ _ _ _ _ _ _ hk hv hg).mono ?_
    rintro r w5 ⟨rfl, hb5⟩
    have B5 : Hid (Below w.heap.size w w5) := B4.out.trans (hb5.mono B4.out.size)
    clear hb5 B4
    go_wp2
    go_ret
    exact ⟨rfl, B5.out⟩
  · skip
    refine (specMsgBytes_yes _ _ _ _ _ _ _ _ _ _ hk hv hg).mono ?_
    rintro r w3 ⟨rfl, hb3⟩
    have c0 := (hb3.cell (p := ⟨w.heap.size, 0, none⟩) hz2).trans d0
    have c1 := (hb3.cell (p := ⟨w.heap.size, 1, none⟩) hz2).trans d1
    have c2 := (hb3.cell (p := ⟨w.heap.size, 2, none⟩) hz2).trans d2
    have c3 := (hb3.cell (p := ⟨w.heap.size, 3, none⟩) hz2).trans d3
    have c4 := (hb3.cell (p := ⟨w.heap.size, 4, none⟩) hz2).trans d4
    have c5 := (hb3.cell (p := ⟨w.heap.size, 5, none⟩) hz2).trans d5
    have c6 := (hb3.cell (p := ⟨w.heap.size, 6, none⟩) hz2).trans d6
    have c7 := (hb3.cell (p := ⟨w.heap.size, 7, none⟩) hz2).trans d7
    have c8 := (hb3.cell (p := ⟨w.heap.size, 8, none⟩) hz2).trans d8
    have hz3 : w.heap.size < w3.heap.size := Nat.lt_of_lt_of_le hz2 hb3.size
    have B3 : Hid (Below w.heap.size w w3) := B2.out.trans (hb3.mono (by omega))
    clear d0 d1 d2 d3 d4 d5 d6 d7 d8
    clear hb3 B2
    go_wp2_with fail
    refine (toMsg_any _ _ _ _ _ _ _ _ _ _).mono ?_
    rintro r w4 ⟨rfl, hb4⟩
    clear c0 c1 c2 c3 c4 c5 c6 c7 c8
    have B4 : Hid (Below w.heap.size w w4) := B3.out.trans (hb4.mono (by omega))
    clear hb4 B3
    go_wp2_with fail
    refine (msgBytes_yes _ _ _ _ _ _ _ _ _ _ hk hv hg).mono ?_
    rintro r w5 ⟨rfl, hb5⟩
    have B5 : Hid (Below w.heap.size w w5) := B4.out.trans (hb5.mono B4.out.size)
    clear hb5 B4
    generalize (⟨(mb kd fr to tx key val e s b).toArray⟩ : ByteArray) = L
    go_wp2
    go_ret
    exact ⟨rfl, B5.out⟩

theorem own : ownKnob Try.prog.godebug = none := by kernel_rfl
theorem laidOut : laidOutB Try.prog = true := by kernel_rfl

set_option maxRecDepth 100000 in
theorem lifted (os : Os) (started : os.Started) (H : Type) (enc : TypeId × Value → H) :
    ReturnsInHanded {} Try.checked os 12 .any (Rows.fnExactMsgBytesSpec.pre6 enc Try.prog Try.f12 Rows.fnExactMsgBytesRow.domain false) (Rows.fnExactMsgBytesSpec.post enc Try.prog Try.f12 false true false false) := by
  refine returnsInHanded_of_change (C := Try.checked) own started (by kernel_rfl) Try.func12
    (ChangeSpec.witness6 (enc := enc) (C := Try.checked) false ⟨#[], #[.agg #[.int .i64 0, .int .i64 0, .int .i64 0, .int .i64 0, .string ⟨#[]⟩, .string ⟨#[]⟩, .int .i64 0, .int .i64 0, .bool false]], []⟩ 8 (by kernel_rfl) (by kernel_rfl) (by kernel_rfl) (by kernel_rfl)) ?_
  intro W base args ds gs before hval0 hW hcnd _
  have hval : ∀ (j : Nat) t v, Try.f12.params[j]? = some t → args[j]? = some v → Value.okWide Try.prog W .any base t v := hval0
  have hW' := hW
  obtain ⟨p, q, hA0, hV, rfl, hfz, hnd⟩ := hW
  have hA : DataW.TrodAll enc Try.prog W 0 (fun _ => true) true Try.f12.params.toList args.toList ds p := hA0
  rw [Try.params12] at hA hval
  obtain ⟨v0, vs0, d0, ds0, p0, q0, hargs, rfl, rfl, h0, r0⟩ := trodAll_cons hA
  obtain ⟨rfl, rfl, rfl⟩ := trodAll_nil r0
  obtain rfl : args = #[v0] := by cases args; simp_all
  obtain ⟨rfl, rfl⟩ := trodVars_none hV
  have k0 := h0
  have lt0 : ∀ x ∈ p0, x.block < W.heap.size := by obtain ⟨m, hm⟩ := k0; exact DataW.trod_lt m _ _ _ hm
  obtain ⟨kd0, fr0, to0, tx0, key0, val0, e0, s0, b0, rfl, hk0, hv0⟩ := open_msg (hval 0 67 v0 rfl rfl) h0
  clear hA0 hval0
  refine (walk (w := W) kd0 fr0 to0 tx0 key0 val0 e0 s0 b0 hk0 hv0).mono fun e W' ⟨he, bel⟩ => ?_
  subst he
  exact ⟨_, rfl, _, _, _, [], _, [], hW', trodAll_mk1 (shut_bool Try.underlying4 _), (trodAll_cons_mk (Below.trod laidOut (by kernel_rfl) (of_decide_eq_true (by kernel_rfl)) k0 bel lt0) trodAll_mk0), rfl, bel.frame _, fun h => by cases h⟩

theorem over : Rows.fnExactMsgBytesRow.holds Try.pinned (OpenSpec.ofChange Rows.fnExactMsgBytesSpec) :=
  OpenClaim.holds_of_wide 12 Try.f12 rfl rfl rfl rfl rfl rfl rfl ⟨rfl, rfl, rfl, rfl, rfl⟩ rfl rfl rfl rfl rfl (by kernel_rfl) Try.func12 (by kernel_rfl)
    (of_decide_eq_true (by kernel_rfl)) (by unfold Func.isWrapper; first | (rw [if_pos (by decide +kernel)]; kernel_rfl) | (rw [if_neg (by decide +kernel)]; exact ⟨rfl, rfl⟩))
    (fun os started H enc _ => lifted os started H enc)

end Go.Proofs.Ytbklhmeaoigneaa.xMsgBytes
namespace Go.Proofs.Ytbklhmeaoigneaa
theorem xMsgBytes_holds : Rows.FnExactMsgBytesSaid := xMsgBytes.over
#print axioms xMsgBytes_holds
end Go.Proofs.Ytbklhmeaoigneaa
