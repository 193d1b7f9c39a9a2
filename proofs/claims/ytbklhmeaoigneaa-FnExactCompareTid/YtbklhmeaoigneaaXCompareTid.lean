/- At every two tids impl.CompareTid answers as the specification does, and each argument reads behind the call as it read before. No condition. -/
import Derived.Test.YtbklhmeaoigneaaTidC
import Derived.Deep.RegionWith
import Derived.Deep.DeepCutAuto
import Derived.ProofKit
import Derived.OpenShut
import Derived.ShutString
import Derived.ChangeOld
import Derived.Below
import Derived.Lib.SmallJoins
namespace Go.Proofs.Ytbklhmeaoigneaa.xCompareTid
open Go.ChangeShapes Go.WideShapes Go.ChangeAt Go.RowKit
open Go.ChangeMaps (open_string shut_string)
set_option linter.unusedVariables false

set_option maxHeartbeats 1000000 in
theorem walk0 (e s : Int) (b : Bool) (e' s' : Int) (b' : Bool) (w : World) :
    Calls Try.prog 9 #[.agg #[.int .i64 e, .int .i64 s, .bool b], .agg #[.int .i64 e', .int .i64 s', .bool b']] w fun r w' => r = .returned (.bool true) ∧ Below w.heap.size w w' := by
  go_enter Try.func9, Try.ntmps9
  go_upto_region 1 with fail
  go_cut [5, 6] (fun s5 s6 wx => s5 = .int .i64 (cmpR e s e' s') ∧ s6 = .bool (goodT e s && goodT e' s') ∧ Below (w.heap.size + 1 + 1) ((w.alloc (.cells #[.int .i64 e, .int .i64 s, .bool b] 54)).alloc (.cells #[.int .i64 e', .int .i64 s', .bool b'] 54)) wx)
  case first =>
    go_region_with (first
      | (go_at_call 35; refine (toTid_any _ _ _ _).mono ?_; rintro e w1 ⟨rfl, hb⟩; have hs2 : ∀ n : Nat, n < n + 1 + 1 := (fun n => by omega); have hs3 : ∀ n : Nat, n < n + 1 + 1 + 1 := (fun n => by omega); obtain ⟨hc, hf⟩ := bcell hb; have hz : w.heap.size < w1.heap.size := (by have := hb.size; (try simp at this); omega); have hz1 : w.heap.size + 1 < w1.heap.size := (by have := hb.size; (try simp at this); omega))
      | (go_at_call 18; refine (specCompare_any _ _ _ _ _ _ _).mono ?_; rintro e w1 ⟨rfl, hb⟩; have hs2 : ∀ n : Nat, n < n + 1 + 1 := (fun n => by omega); have hs3 : ∀ n : Nat, n < n + 1 + 1 + 1 := (fun n => by omega); obtain ⟨hc, hf⟩ := bcell hb; have hz : w.heap.size < w1.heap.size := (by have := hb.size; (try simp at this); omega); have hz1 : w.heap.size + 1 < w1.heap.size := (by have := hb.size; (try simp at this); omega)))
    all_goals (go_wp2_with fail; go_meet; exact ⟨rfl, rfl, (by repeat (first | exact Below.refl _ _ | refine Below.drew ?_ | refine Below.setCell ?_ (by (try simp) <;> omega) _ | refine Below.alloc ?_ (by (try simp) <;> omega) _ | refine Below.trans ?_ (Below.mono (by assumption) (by (try simp) <;> omega))))⟩)
  case rest =>
    obtain ⟨rfl, rfl, hb1⟩ := hcut
    have hz0 : w.heap.size < wc.heap.size := by have := hb1.size; simp at this; omega
    have hz1 : w.heap.size + 1 < wc.heap.size := by have := hb1.size; simp at this; omega
    have c00 : wc.cell? ⟨w.heap.size, 0, none⟩ = some (.int .i64 e) := by rw [hb1.cell (p := ⟨w.heap.size, 0, none⟩) (by simp <;> omega)]; simp [go_sem]
    have c01 : wc.cell? ⟨w.heap.size, 1, none⟩ = some (.int .i64 s) := by rw [hb1.cell (p := ⟨w.heap.size, 1, none⟩) (by simp <;> omega)]; simp [go_sem]
    have c02 : wc.cell? ⟨w.heap.size, 2, none⟩ = some (.bool b) := by rw [hb1.cell (p := ⟨w.heap.size, 2, none⟩) (by simp <;> omega)]; simp [go_sem]
    have c10 : wc.cell? ⟨w.heap.size + 1, 0, none⟩ = some (.int .i64 e') := by rw [hb1.cell (p := ⟨w.heap.size + 1, 0, none⟩) (by simp <;> omega)]; simp [go_sem]
    have c11 : wc.cell? ⟨w.heap.size + 1, 1, none⟩ = some (.int .i64 s') := by rw [hb1.cell (p := ⟨w.heap.size + 1, 1, none⟩) (by simp <;> omega)]; simp [go_sem]
    have c12 : wc.cell? ⟨w.heap.size + 1, 2, none⟩ = some (.bool b') := by rw [hb1.cell (p := ⟨w.heap.size + 1, 2, none⟩) (by simp <;> omega)]; simp [go_sem]
    have tok : True := trivial
    go_upto_region 2 with fail
    go_cut [7, 8] (fun s7 s8 wx => s7 = .int .i64 (cmpR e s e' s') ∧ s8 = .bool (goodT e s && goodT e' s') ∧ Below w.heap.size w wx)
    case first =>
      go_region_with (first
        | (go_at_call 35; refine (toTid_any _ _ _ _).mono ?_; rintro e w1 ⟨rfl, hb⟩; have tok1 := tok; clear tok; have d10 := (hb.cell (p := ⟨w.heap.size + 1, 0, none⟩) hz1).trans c10; have d11 := (hb.cell (p := ⟨w.heap.size + 1, 1, none⟩) hz1).trans c11; have d12 := (hb.cell (p := ⟨w.heap.size + 1, 2, none⟩) hz1).trans c12; have hz : w.heap.size < w1.heap.size := (by have := hb.size; (try simp at this); omega))
        | (go_at_call 35; refine (toTid_any _ _ _ _).mono ?_; rintro e w1 ⟨rfl, hb⟩; have hz : w.heap.size < w1.heap.size := (by have := hb.size; (try simp at this); omega))
        | (go_at_call 17; refine (compare_any _ _ _ _ _ _ _).mono ?_; rintro e w1 ⟨rfl, hb⟩; have hz : w.heap.size < w1.heap.size := (by have := hb.size; (try simp at this); omega)))
      all_goals (go_wp2_with fail; go_meet; exact ⟨rfl, rfl, (by repeat (first | exact Below.refl _ _ | refine Below.drew ?_ | refine Below.setCell ?_ (by (try simp) <;> omega) _ | refine Below.alloc ?_ (by (try simp) <;> omega) _ | refine Below.trans ?_ (Below.mono (by assumption) (by (try simp) <;> omega))))⟩)
    case rest =>
      obtain ⟨rfl, rfl, hb2⟩ := hcut
      go_wp2
      go_ret
      exact ⟨rfl, hb2⟩
theorem walk (e s : Int) (b : Bool) (_ : (Lit.int .i64 e).wf = true) (_ : (Lit.int .i64 s).wf = true) (e' s' : Int) (b' : Bool) (_ : (Lit.int .i64 e').wf = true) (_ : (Lit.int .i64 s').wf = true) (w : World) :
    Calls Try.prog 9 #[.agg #[.int .i64 e, .int .i64 s, .bool b], .agg #[.int .i64 e', .int .i64 s', .bool b']] w fun r w' => r = .returned (.bool true) ∧ Below w.heap.size w w' := walk0 e s b e' s' b' w

theorem own : ownKnob Try.prog.godebug = none := by kernel_rfl
theorem laidOut : laidOutB Try.prog = true := by kernel_rfl

set_option maxRecDepth 100000 in
theorem lifted (os : Os) (started : os.Started) (H : Type) (enc : TypeId × Value → H) :
    ReturnsInHanded {} Try.checked os 9 .any (Rows.fnExactCompareTidSpec.pre6 enc Try.prog Try.f9 Rows.fnExactCompareTidRow.domain false) (Rows.fnExactCompareTidSpec.post enc Try.prog Try.f9 false true false false) := by
  refine returnsInHanded_of_change (C := Try.checked) own started (by kernel_rfl) Try.func9
    (ChangeSpec.witness6 (enc := enc) (C := Try.checked) false ⟨#[], #[.agg #[.int .i64 0, .int .i64 0, .bool false], .agg #[.int .i64 0, .int .i64 0, .bool false]], []⟩ 8 (by kernel_rfl) (by kernel_rfl) (by kernel_rfl) (by kernel_rfl)) ?_
  intro W base args ds gs before hval0 hW hcnd _
  have hval : ∀ (j : Nat) t v, Try.f9.params[j]? = some t → args[j]? = some v → Value.okWide Try.prog W .any base t v := hval0
  have hW' := hW
  obtain ⟨p, q, hA0, hV, rfl, hfz, hnd⟩ := hW
  have hA : DataW.TrodAll enc Try.prog W 0 (fun _ => true) true Try.f9.params.toList args.toList ds p := hA0
  rw [Try.params9] at hA hval
  obtain ⟨v0, vs0, d0, ds0, p0, q0, hargs, rfl, rfl, h0, r0⟩ := trodAll_cons hA
  obtain ⟨v1, vs1, d1, ds1, p1, q1, rfl, rfl, rfl, h1, r1⟩ := trodAll_cons r0
  obtain ⟨rfl, rfl, rfl⟩ := trodAll_nil r1
  obtain rfl : args = #[v0, v1] := by cases args; simp_all
  obtain ⟨rfl, rfl⟩ := trodVars_none hV
  have k0 := h0
  have lt0 : ∀ x ∈ p0, x.block < W.heap.size := by obtain ⟨m, hm⟩ := k0; exact DataW.trod_lt m _ _ _ hm
  obtain ⟨c00, c01, c02, y00, y01, y02, m0, rfl, rfl, rfl, hy00, hy01, hy02⟩ := Go.Joins.open_agg3 Try.underlying54 (by kernel_rfl) (by kernel_rfl) (hval 0 54 v0 rfl rfl) h0
  obtain ⟨a0e, q00, rfl, w0e⟩ := DataW.trod_int Try.underlying3 hy00
  obtain ⟨a0s, q01, rfl, w0s⟩ := DataW.trod_int Try.underlying3 hy01
  obtain ⟨a0b, q02, rfl⟩ := DataW.trod_bool Try.underlying4 hy02
  simp only [List.cons.injEq, and_true] at q00 q01 q02
  subst q00 q01 q02
  have k1 := h1
  have lt1 : ∀ x ∈ p1, x.block < W.heap.size := by obtain ⟨m, hm⟩ := k1; exact DataW.trod_lt m _ _ _ hm
  obtain ⟨c10, c11, c12, y10, y11, y12, m1, rfl, rfl, rfl, hy10, hy11, hy12⟩ := Go.Joins.open_agg3 Try.underlying54 (by kernel_rfl) (by kernel_rfl) (hval 1 54 v1 rfl rfl) h1
  obtain ⟨a1e, q10, rfl, w1e⟩ := DataW.trod_int Try.underlying3 hy10
  obtain ⟨a1s, q11, rfl, w1s⟩ := DataW.trod_int Try.underlying3 hy11
  obtain ⟨a1b, q12, rfl⟩ := DataW.trod_bool Try.underlying4 hy12
  simp only [List.cons.injEq, and_true] at q10 q11 q12
  subst q10 q11 q12
  clear hA0 hval0
  refine (walk a0e a0s a0b w0e w0s a1e a1s a1b w1e w1s W).mono fun e W' ⟨he, bel⟩ => ?_
  subst he
  exact ⟨_, rfl, _, _, _, [], _, [], hW', trodAll_mk1 (shut_bool Try.underlying4 _), (trodAll_cons_mk (Below.trod laidOut (by kernel_rfl) (of_decide_eq_true (by kernel_rfl)) k0 bel lt0) (trodAll_cons_mk (Below.trod laidOut (by kernel_rfl) (of_decide_eq_true (by kernel_rfl)) k1 bel lt1) trodAll_mk0)), rfl, bel.frame _, fun h => by cases h⟩

theorem over : Rows.fnExactCompareTidRow.holds Try.pinned (OpenSpec.ofChange Rows.fnExactCompareTidSpec) :=
  OpenClaim.holds_of_wide 9 Try.f9 rfl rfl rfl rfl rfl rfl rfl ⟨rfl, rfl, rfl, rfl, rfl⟩ rfl rfl rfl rfl rfl (by kernel_rfl) Try.func9 (by kernel_rfl)
    (of_decide_eq_true (by kernel_rfl)) (by unfold Func.isWrapper; first | (rw [if_pos (by decide +kernel)]; kernel_rfl) | (rw [if_neg (by decide +kernel)]; exact ⟨rfl, rfl⟩))
    (fun os started H enc _ => lifted os started H enc)

end Go.Proofs.Ytbklhmeaoigneaa.xCompareTid
namespace Go.Proofs.Ytbklhmeaoigneaa
theorem xCompareTid_holds : Rows.FnExactCompareTidSaid := xCompareTid.over
#print axioms xCompareTid_holds
end Go.Proofs.Ytbklhmeaoigneaa
