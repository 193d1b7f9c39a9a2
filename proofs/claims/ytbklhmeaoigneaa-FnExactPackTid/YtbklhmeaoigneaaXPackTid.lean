/- At every tid impl.PackTid answers as the specification does, and the argument reads behind the call as it read before. No condition. -/
import Derived.Test.YtbklhmeaoigneaaTidB
import Derived.ProofKit
import Derived.OpenShut
import Derived.ShutString
import Derived.ChangeOld
import Derived.Below
import Derived.Lib.SmallJoins
namespace Go.Proofs.Ytbklhmeaoigneaa.xPackTid
open Go.ChangeShapes Go.WideShapes Go.ChangeAt Go.RowKit
open Go.ChangeMaps (open_string shut_string)
set_option linter.unusedVariables false

set_option maxHeartbeats 1000000 in
theorem walk (e s : Int) (b : Bool) (w0 : (Lit.int .i64 e).wf = true) (w1 : (Lit.int .i64 s).wf = true) (w : World) :
    Calls Try.prog 7 #[.agg #[.int .i64 e, .int .i64 s, .bool b]] w fun r w' => r = .returned (.bool true) ∧ Below w.heap.size w w' := by
  clear w0 w1
  cases h : goodT e s
  · go_enter Try.func7, Try.ntmps7
    go_wp2_with (first
    | (go_at_call 35; refine (toTid_any _ _ _ _).mono ?_; rintro e w1 ⟨rfl, hb⟩; have hs2 : ∀ n : Nat, n < n + 1 + 1 := (fun n => by omega); have hs3 : ∀ n : Nat, n < n + 1 + 1 + 1 := (fun n => by omega); obtain ⟨hc, hf⟩ := bcell hb; have hz : w.heap.size < w1.heap.size := (by have := hb.size; (try simp at this); omega))
    | (go_at_call 37; refine (specPack_no _ _ _ _ h).mono ?_; rintro e w1 ⟨rfl, hb⟩; have hs2 : ∀ n : Nat, n < n + 1 + 1 := (fun n => by omega); have hs3 : ∀ n : Nat, n < n + 1 + 1 + 1 := (fun n => by omega); obtain ⟨hc, hf⟩ := bcell hb; have hz : w.heap.size < w1.heap.size := (by have := hb.size; (try simp at this); omega))
    | (go_at_call 19; refine (pack_no _ _ _ _ h).mono ?_; rintro e w1 ⟨rfl, hb⟩; have hs2 : ∀ n : Nat, n < n + 1 + 1 := (fun n => by omega); have hs3 : ∀ n : Nat, n < n + 1 + 1 + 1 := (fun n => by omega); obtain ⟨hc, hf⟩ := bcell hb; have hz : w.heap.size < w1.heap.size := (by have := hb.size; (try simp at this); omega)))
    go_ret
    exact ⟨rfl, (by repeat (first | exact Below.refl _ _ | refine Below.drew ?_ | refine Below.setCell ?_ (by (try simp) <;> omega) _ | refine Below.alloc ?_ (by (try simp) <;> omega) _ | refine Below.trans ?_ (Below.mono (by assumption) (by (try simp) <;> omega))))⟩
  · go_enter Try.func7, Try.ntmps7
    go_wp2_with (first
    | (go_at_call 35; refine (toTid_any _ _ _ _).mono ?_; rintro e w1 ⟨rfl, hb⟩; have hs2 : ∀ n : Nat, n < n + 1 + 1 := (fun n => by omega); have hs3 : ∀ n : Nat, n < n + 1 + 1 + 1 := (fun n => by omega); obtain ⟨hc, hf⟩ := bcell hb; have hz : w.heap.size < w1.heap.size := (by have := hb.size; (try simp at this); omega))
    | (go_at_call 37; refine (specPack_yes _ _ _ _ h).mono ?_; rintro e w1 ⟨rfl, hb⟩; have hs2 : ∀ n : Nat, n < n + 1 + 1 := (fun n => by omega); have hs3 : ∀ n : Nat, n < n + 1 + 1 + 1 := (fun n => by omega); obtain ⟨hc, hf⟩ := bcell hb; have hz : w.heap.size < w1.heap.size := (by have := hb.size; (try simp at this); omega))
    | (go_at_call 19; refine (pack_yes _ _ _ _ h).mono ?_; rintro e w1 ⟨rfl, hb⟩; have hs2 : ∀ n : Nat, n < n + 1 + 1 := (fun n => by omega); have hs3 : ∀ n : Nat, n < n + 1 + 1 + 1 := (fun n => by omega); obtain ⟨hc, hf⟩ := bcell hb; have hz : w.heap.size < w1.heap.size := (by have := hb.size; (try simp at this); omega)))
    go_ret
    exact ⟨rfl, (by repeat (first | exact Below.refl _ _ | refine Below.drew ?_ | refine Below.setCell ?_ (by (try simp) <;> omega) _ | refine Below.alloc ?_ (by (try simp) <;> omega) _ | refine Below.trans ?_ (Below.mono (by assumption) (by (try simp) <;> omega))))⟩

theorem own : ownKnob Try.prog.godebug = none := by kernel_rfl
theorem laidOut : laidOutB Try.prog = true := by kernel_rfl

set_option maxRecDepth 100000 in
theorem lifted (os : Os) (started : os.Started) (H : Type) (enc : TypeId × Value → H) :
    ReturnsInHanded {} Try.checked os 7 .any (Rows.fnExactPackTidSpec.pre6 enc Try.prog Try.f7 Rows.fnExactPackTidRow.domain false) (Rows.fnExactPackTidSpec.post enc Try.prog Try.f7 false true false false) := by
  refine returnsInHanded_of_change (C := Try.checked) own started (by kernel_rfl) Try.func7
    (ChangeSpec.witness6 (enc := enc) (C := Try.checked) false ⟨#[], #[.agg #[.int .i64 0, .int .i64 0, .bool false]], []⟩ 8 (by kernel_rfl) (by kernel_rfl) (by kernel_rfl) (by kernel_rfl)) ?_
  intro W base args ds gs before hval0 hW hcnd _
  have hval : ∀ (j : Nat) t v, Try.f7.params[j]? = some t → args[j]? = some v → Value.okWide Try.prog W .any base t v := hval0
  have hW' := hW
  obtain ⟨p, q, hA0, hV, rfl, hfz, hnd⟩ := hW
  have hA : DataW.TrodAll enc Try.prog W 0 (fun _ => true) true Try.f7.params.toList args.toList ds p := hA0
  rw [Try.params7] at hA hval
  obtain ⟨v0, vs0, d0, ds0, p0, q0, hargs, rfl, rfl, h0, r0⟩ := trodAll_cons hA
  obtain ⟨rfl, rfl, rfl⟩ := trodAll_nil r0
  obtain rfl : args = #[v0] := by cases args; simp_all
  obtain ⟨rfl, rfl⟩ := trodVars_none hV
  have k0 := h0
  have lt0 : ∀ x ∈ p0, x.block < W.heap.size := by obtain ⟨m, hm⟩ := k0; exact DataW.trod_lt m _ _ _ hm
  obtain ⟨c00, c01, c02, y00, y01, y02, m0, rfl, rfl, rfl, hy00, hy01, hy02⟩ := Go.Joins.open_agg3 Try.underlying54 (by kernel_rfl) (by kernel_rfl) (hval 0 54 v0 rfl rfl) h0
  obtain ⟨a0e, q00, rfl, w0e⟩ := DataW.trod_int Try.underlying3 hy00
  obtain ⟨a0s, q01, rfl, w0s⟩ := DataW.trod_int Try.underlying3 hy01
  obtain ⟨a0b, q02, rfl⟩ := DataW.trod_bool Try.underlying4 hy02
  simp only [List.cons.injEq, and_true] at q00 q01 q02
  subst q00 q01 q02
  clear hA0 hval0
  refine (walk a0e a0s a0b w0e w0s W).mono fun e W' ⟨he, bel⟩ => ?_
  subst he
  exact ⟨_, rfl, _, _, _, [], _, [], hW', trodAll_mk1 (shut_bool Try.underlying4 _), (trodAll_cons_mk (Below.trod laidOut (by kernel_rfl) (of_decide_eq_true (by kernel_rfl)) k0 bel lt0) trodAll_mk0), rfl, bel.frame _, fun h => by cases h⟩

theorem over : Rows.fnExactPackTidRow.holds Try.pinned (OpenSpec.ofChange Rows.fnExactPackTidSpec) :=
  OpenClaim.holds_of_wide 7 Try.f7 rfl rfl rfl rfl rfl rfl rfl ⟨rfl, rfl, rfl, rfl, rfl⟩ rfl rfl rfl rfl rfl (by kernel_rfl) Try.func7 (by kernel_rfl)
    (of_decide_eq_true (by kernel_rfl)) (by unfold Func.isWrapper; first | (rw [if_pos (by decide +kernel)]; kernel_rfl) | (rw [if_neg (by decide +kernel)]; exact ⟨rfl, rfl⟩))
    (fun os started H enc _ => lifted os started H enc)

end Go.Proofs.Ytbklhmeaoigneaa.xPackTid
namespace Go.Proofs.Ytbklhmeaoigneaa
theorem xPackTid_holds : Rows.FnExactPackTidSaid := xPackTid.over
#print axioms xPackTid_holds
end Go.Proofs.Ytbklhmeaoigneaa
