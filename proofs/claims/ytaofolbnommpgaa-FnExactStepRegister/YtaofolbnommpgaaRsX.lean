/- Registers: spec.l9Step whole. -/
import Derived.Test.YtaofolbnommpgaaRsW
namespace Go.Proofs.Ytaofolbnommpgaa
open Go.RowKit
set_option linter.unusedVariables false
set_option linter.unusedSimpArgs false

theorem own_forms {W : World} {lo : Nat} {ck : Int} {va vp : Value} {cp : List (Sh.T shCopy)} {os : List (Sh.T shRegOp)} {S : Nat → Prop} (h : OwnX W lo tyRegister [.int .i64 ck, va, vp] (ck, cp, os, ()) S) : ∃ a1 k1 a2 k2, va = .slice a1 (List.length (α := Sh.T shCopy) cp) k1 ∧ vp = .slice a2 (List.length (α := Sh.T shRegOp) os) k2 := by
  obtain ⟨va', S1, vp', S2, e0, o1, o2, _⟩ := ownx_Register h
  cases e0
  obtain ⟨a1, k1, e1⟩ := o1.vform
  obtain ⟨a2, k2, e2⟩ := o2.vform
  exact ⟨a1, k1, a2, k2, e1, e2⟩
theorem SpP.back {A : Option RgD} {ck : Int} {w W w2 w' : World} {lo : Nat} {S : Nat → Prop} {ck' : Int} {va' vp' : Value} {cp' : List (Sh.T shCopy)} {os' : List (Sh.T shRegOp)} {S' : Nat → Prop} {z : Nat} (hb : Below w.heap.size w W) (hO : OwnX w2 lo tyRegister [.int .i64 ck', va', vp'] (ck', cp', os', ()) S') (hS' : ∀ b, S' b → b < w2.heap.size ∧ (S b ∨ W.heap.size ≤ b)) (hS : ∀ b, S b → b < w.heap.size) (hT : TurnS S W w2) (hy : ∀ y : RgD, A = some y → ck' = ck + 1 ∧ cp' = y.1 ∧ os' = y.2) (hz : w.heap.size ≤ z) (hz2 : z < W.heap.size) (ht : TurnS (fun b => b = z) w2 w') : SpP A ck w lo S (.returned (.tuple #[.agg #[.int .i64 ck', va', vp'], .bool A.isSome])) w' := by
  have h1 := ht.size
  have h2 := hb.size
  have h3 := hT.size
  have ha : ∀ b, S' b → ¬ (b = z) := fun b hb e => by
    rcases (hS' b hb).2 with q | q
    · have := hS b q; omega
    · omega
  refine ⟨ck', va', vp', cp', os', S', rfl, hO.turn ht ha, fun b hb => ⟨by have := (hS' b hb).1; omega, (hS' b hb).2.elim Or.inl (fun q => Or.inr (by omega))⟩, ?_, hy⟩
  have hA := ((TurnS.of_below (S := fun b => S b ∨ w.heap.size ≤ b) hb).trans (hT.wide (fun b q => Or.inl q))).trans (ht.wide (S' := fun b => S b ∨ w.heap.size ≤ b) (fun b (e : b = z) => Or.inr (by omega)))
  exact ⟨hA.1, hA.2.1, hA.2.2.1, hA.2.2.2.1, fun b hb hn => hA.2.2.2.2 b hb (fun q => q.elim hn (fun r => by omega))⟩

set_option maxRecDepth 100000 in
set_option maxHeartbeats 8000000 in
theorem l9Step_n (lo : Nat) (ck : Int) (va vp : Value) (cp : List (Sh.T shCopy)) (os : List (Sh.T shRegOp)) (S : Nat → Prop) (bg : Bool) (cl : Int) (wt : Bool) (vl : ByteArray) (oi ni : Int) (w : World) (hg : goodR ck cp os) (hv : vl.size ≤ 1073741824) (hS : ∀ b, S b → b < w.heap.size) (hlo : lo ≤ w.heap.size) (h : OwnX w lo tyRegister [.int .i64 ck, va, vp] (ck, cp, os, ()) S) :
    Calls Try.prog 47 #[.agg #[.int .i64 ck, va, vp], .agg #[.bool bg, .int .i64 cl, .bool wt, .string vl, .int .i64 oi, .int .i64 ni]] w (SpP (rsC ck cp os bg cl wt vl oi ni) ck w lo S) := by
  by_cases hk : ck = 1000
  case neg =>
    cases bg with
    | false =>
      rw [rsC_on hk]
      exact l9Go_n lo ck va vp cp os S cl wt vl oi ni w hg hk hS hlo h
    | true =>
      have HR := Hid.intro (rsC_on (cp := cp) (os := os) (bg := true) (cl := cl) (wt := wt) (vl := vl) (oi := oi) (ni := ni) hk)
      obtain ⟨a1, k1, a2, k2, rfl, rfl⟩ := own_forms h
      have hck := hg.1
      have HLO := Hid.intro (And.intro hS (And.intro hlo (And.intro hg hv)))
      obtain ⟨w1, hw1⟩ : ∃ x, x = ((w.alloc (.cells #[.int .i64 ck, .slice a1 cp.length k1, .slice a2 os.length k2] 29)).alloc (.cells #[.bool true, .int .i64 cl, .bool wt, .string vl, .int .i64 oi, .int .i64 ni] 42)).alloc (.cells #[.int .i64 0, .slice none 0 0, .slice none 0 0] 29) := ⟨_, rfl⟩
      have hbw : Below w.heap.size w w1 := hw1 ▸ (((Below.refl _ _).alloc (Nat.le_refl _) _).alloc (by simp) _).alloc (by simp <;> omega) _
      have H1 : Hid (SpB w w1 lo ck (.slice a1 cp.length k1) (.slice a2 os.length k2) cp os S true cl wt vl oi ni) := ⟨hw1 ▸ ((Bx.new w [_, _, _] _).alloc _).alloc _, hw1 ▸ (Bx.newAt (by simp)).alloc _, hw1 ▸ Bx.newAt (by simp), h.next hbw, hbw⟩
      have ckn : (ck == 1000) = false := by simpa using hk
      clear h hbw hS hlo hg hk hv
      have s0 := (H1.out.1).cell 0 rfl; have s1 := (H1.out.1).cell 1 rfl; have s2 := (H1.out.1).cell 2 rfl; have sz := (H1.out.1).2
      have t0 := (H1.out.2.1).cell 0 rfl; have t1 := (H1.out.2.1).cell 1 rfl; have t2 := (H1.out.2.1).cell 2 rfl; have t3 := (H1.out.2.1).cell 3 rfl; have t4 := (H1.out.2.1).cell 4 rfl; have t5 := (H1.out.2.1).cell 5 rfl; have tz := (H1.out.2.1).2
      go_enter Try.func47, Try.ntmps47
      go_upto_region 1 with fail
      rw [← hw1]
      clear hw1
      go_wp2_with fail
      refine (l9Begin_n lo ck _ _ cp os S cl wt vl oi ni true w1 hck HLO.out.2.2.1.2.2.1 HLO.out.2.2.2 (fun b hb => Nat.lt_of_lt_of_le (HLO.out.1 b hb) H1.out.2.2.2.2.size) (Nat.le_trans HLO.out.2.1 H1.out.2.2.2.2.size) H1.out.2.2.2.1).mono ?_
      rintro r w2 ⟨ck', va', vp', cp', os', S', rfl, hO, hS', hT, hy⟩
      obtain ⟨p1, q1, p2, q2, rfl, rfl⟩ := own_forms hO
      have hz1 := H1.out.2.2.1.2
      have hbz := H1.out.2.2.2.2.size
      have HR2 := Hid.intro (H1.out.2.2.1.turnS hT (fun q => by have := HLO.out.1 _ q; omega))
      have HX := Hid.intro (And.intro hO (And.intro hS' (And.intro hT hy)))
      obtain ⟨zA, hzA⟩ : ∃ zA : Bool, zA = (rsB ck cp os true cl wt vl oi ni).isSome := ⟨_, rfl⟩
      rw [← hzA]
      have HZA := Hid.intro hzA
      clear hO hS' hT hy s0 s1 s2 sz t0 t1 t2 t3 t4 t5 tz hzA
      have r0 := (HR2.out).cell 0 rfl; have r1 := (HR2.out).cell 1 rfl; have r2 := (HR2.out).cell 2 rfl; have rz := (HR2.out).2
      have rf0 := HR2.out.frz 0 (by simp)
      have rf1 := HR2.out.frz 1 (by simp)
      have rf2 := HR2.out.frz 2 (by simp)
      go_wp2_with fail
      refine bodyPost_ret (v := .tuple #[.agg #[.int .i64 ck', .slice p1 (List.length (α := Sh.T shCopy) cp') q1, .slice p2 (List.length (α := Sh.T shRegOp) os') q2], .bool zA]) (by simp [results, Try.results47, go_sem, *]) rfl ?_
      rw [HZA.out, ← HR.out]
      exact SpP.back (z := w.heap.size + 1 + 1) H1.out.2.2.2.2 HX.out.1 HX.out.2.1 HLO.out.1 HX.out.2.2.1 (fun y e => HX.out.2.2.2 y (HR.out ▸ e)) (by omega) hz1 (set3 w2 (w.heap.size + 1 + 1) _ _ _)
  case pos =>
    have HN : Hid (rsC ck cp os bg cl wt vl oi ni = none) := Hid.intro (rsC_end hk)
    obtain ⟨a1, k1, a2, k2, rfl, rfl⟩ := own_forms h
    have HLO := Hid.intro (And.intro hS hlo)
    obtain ⟨w1, hw1⟩ : ∃ x, x = ((w.alloc (.cells #[.int .i64 ck, .slice a1 cp.length k1, .slice a2 os.length k2] 29)).alloc (.cells #[.bool bg, .int .i64 cl, .bool wt, .string vl, .int .i64 oi, .int .i64 ni] 42)).alloc (.cells #[.int .i64 0, .slice none 0 0, .slice none 0 0] 29) := ⟨_, rfl⟩
    have hbw : Below w.heap.size w w1 := hw1 ▸ (((Below.refl _ _).alloc (Nat.le_refl _) _).alloc (by simp) _).alloc (by simp <;> omega) _
    have H1 : Hid (SpB w w1 lo ck (.slice a1 cp.length k1) (.slice a2 os.length k2) cp os S bg cl wt vl oi ni) := ⟨hw1 ▸ ((Bx.new w [_, _, _] _).alloc _).alloc _, hw1 ▸ (Bx.newAt (by simp)).alloc _, hw1 ▸ Bx.newAt (by simp), h.next hbw, hbw⟩
    have ckn : (ck == 1000) = true := by simpa using hk
    clear h hbw hS hlo hg hk hv
    have s0 := (H1.out.1).cell 0 rfl; have s1 := (H1.out.1).cell 1 rfl; have s2 := (H1.out.1).cell 2 rfl; have sz := (H1.out.1).2
    have r0 := (H1.out.2.2.1).cell 0 rfl; have r1 := (H1.out.2.2.1).cell 1 rfl; have r2 := (H1.out.2.2.1).cell 2 rfl; have rz := (H1.out.2.2.1).2
    have rf0 := H1.out.2.2.1.frz 0 (by simp)
    have rf1 := H1.out.2.2.1.frz 1 (by simp)
    have rf2 := H1.out.2.2.1.frz 2 (by simp)
    go_enter Try.func47, Try.ntmps47
    go_upto_region 1 with fail
    rw [← hw1]
    clear hw1
    go_wp2_with fail
    exact bodyPost_ret (v := .tuple #[.agg #[.int .i64 ck, .slice a1 cp.length k1, .slice a2 os.length k2], .bool false]) (by simp [results, Try.results47, go_sem, *]) rfl (H1.out.no HLO.out.1 HN.out _ _ _)
end Go.Proofs.Ytaofolbnommpgaa
