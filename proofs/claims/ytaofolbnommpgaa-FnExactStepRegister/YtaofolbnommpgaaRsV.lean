/- Registers: spec.l9Begin. -/
import Derived.Test.YtaofolbnommpgaaRhB
import Derived.Test.YtaofolbnommpgaaRhR
import Derived.Deep.DeepCutAuto
namespace Go.Proofs.Ytaofolbnommpgaa
open Go.RowKit
set_option linter.unusedVariables false
set_option linter.unusedSimpArgs false

/-- What a step of the specification answers: a register, made of the old one's rows and of new ones, and whether. -/
def SpP (A : Option RgD) (ck : Int) (W : World) (lo : Nat) (S : Nat → Prop) (r : Ending) (w' : World) : Prop :=
  ∃ ck' va' vp' cp' os', ∃ S' : Nat → Prop, r = .returned (.tuple #[.agg #[.int .i64 ck', va', vp'], .bool A.isSome]) ∧ OwnX w' lo tyRegister [.int .i64 ck', va', vp'] (ck', cp', os', ()) S' ∧ (∀ b, S' b → b < w'.heap.size ∧ (S b ∨ W.heap.size ≤ b)) ∧ TurnS S W w' ∧ ∀ y : RgD, A = some y → ck' = ck + 1 ∧ cp' = y.1 ∧ os' = y.2
/-- The cells of a step of the specification. -/
def SpB (w W : World) (lo : Nat) (ck : Int) (va vp : Value) (cp : List (Sh.T shCopy)) (os : List (Sh.T shRegOp)) (S : Nat → Prop) (bg : Bool) (cl : Int) (wr : Bool) (vl : ByteArray) (oi ni : Int) : Prop :=
  Bx W w.heap.size [.int .i64 ck, va, vp] ∧ Bx W (w.heap.size + 1) (stC bg cl wr vl oi ni) ∧ Bx W (w.heap.size + 1 + 1) [.int .i64 0, .slice none 0 0, .slice none 0 0] ∧ OwnX W lo tyRegister [.int .i64 ck, va, vp] (ck, cp, os, ()) S ∧ Below w.heap.size w W
section
variable {w W W' : World} {lo : Nat} {ck : Int} {va vp : Value} {cp : List (Sh.T shCopy)} {os : List (Sh.T shRegOp)} {S : Nat → Prop} {bg : Bool} {cl : Int} {wr : Bool} {vl : ByteArray} {oi ni : Int}
theorem SpB.next (h : SpB w W lo ck va vp cp os S bg cl wr vl oi ni) (hb : Below W.heap.size W W') : SpB w W' lo ck va vp cp os S bg cl wr vl oi ni := ⟨h.1.next hb, h.2.1.next hb, h.2.2.1.next hb, h.2.2.2.1.next hb, below_next h.2.2.2.2 hb⟩
/-- The register is answered as it came. -/
theorem SpB.no {A : Option RgD} {a1 : Option Addr} {k1 : Nat} {a2 : Option Addr} {k2 : Nat} (h : SpB w W lo ck (.slice a1 cp.length k1) (.slice a2 os.length k2) cp os S bg cl wr vl oi ni) (hS : ∀ b, S b → b < w.heap.size) (hA : A = none) (u0 u1 u2 : Value) : SpP A ck w lo S (.returned (.tuple #[.agg #[.int .i64 ck, .slice a1 cp.length k1, .slice a2 os.length k2], .bool false])) (((W.setCell ⟨w.heap.size + 1 + 1, 0, none⟩ u0).setCell ⟨w.heap.size + 1 + 1, 1, none⟩ u1).setCell ⟨w.heap.size + 1 + 1, 2, none⟩ u2) := by
  subst hA
  have ht := set3 W (w.heap.size + 1 + 1) u0 u1 u2
  have hz := ht.size
  have hz2 := h.2.2.2.2.size
  refine ⟨_, _, _, cp, os, S, rfl, h.2.2.2.1.turn ht (fun k hk e => by have := hS k hk; have e : k = w.heap.size + 1 + 1 := e; omega), fun b hb => ⟨by have := hS b hb; omega, Or.inl hb⟩, TurnS.of_below (h.2.2.2.2.trans (ht.below (fun k e => by have e : k = w.heap.size + 1 + 1 := e; omega) hz2)), fun y e => by cases e⟩
end
theorem take_bsy {os : List (Sh.T shRegOp)} {cl : Int} {k : Nat} (h : k < os.length) : bsyP (os.take (k + 1)) cl ↔ bsyP (os.take k) cl ∨ (RgO.cl os[k] = cl ∧ RgO.ph os[k] ≠ 3) := by
  unfold bsyP
  rw [List.take_succ_eq_append_getElem h]
  constructor
  · rintro ⟨o, ho, h1⟩
    rcases List.mem_append.1 ho with q | q
    · exact Or.inl ⟨o, q, h1⟩
    · rw [List.mem_singleton.1 q] at h1; exact Or.inr h1
  · rintro (⟨o, ho, h1⟩ | h1)
    · exact ⟨o, List.mem_append.2 (Or.inl ho), h1⟩
    · exact ⟨_, List.mem_append.2 (Or.inr (List.mem_singleton.2 rfl)), h1⟩
theorem bsy_more {os : List (Sh.T shRegOp)} {cl : Int} {k : Nat} (h : bsyP (os.take k) cl) : bsyP os cl := by
  obtain ⟨o, ho, h1⟩ := h
  exact ⟨o, List.mem_of_mem_take ho, h1⟩

set_option maxRecDepth 100000 in
set_option maxHeartbeats 8000000 in
theorem l9Begin_n (lo : Nat) (ck : Int) (va vp : Value) (cp : List (Sh.T shCopy)) (os : List (Sh.T shRegOp)) (S : Nat → Prop) (cl : Int) (wt : Bool) (vl : ByteArray) (oi ni : Int) (bg : Bool) (w : World) (hck : 0 ≤ ck ∧ ck ≤ 1000) (hl : os.length ≤ 7) (hv : vl.size ≤ 1073741824) (hS : ∀ b, S b → b < w.heap.size) (hlo : lo ≤ w.heap.size) (h : OwnX w lo tyRegister [.int .i64 ck, va, vp] (ck, cp, os, ()) S) :
    Calls Try.prog 89 #[.agg #[.int .i64 ck, va, vp], .agg #[.bool bg, .int .i64 cl, .bool wt, .string vl, .int .i64 oi, .int .i64 ni]] w (SpP (rsB ck cp os true cl wt vl oi ni) ck w lo S) := by
  obtain ⟨a1, k1, a2, k2, rfl, rfl⟩ : ∃ a1 k1 a2 k2, va = .slice a1 cp.length k1 ∧ vp = .slice a2 os.length k2 := by
    obtain ⟨va', S1, vp', S2, e0, o1, o2, _⟩ := ownx_Register h
    cases e0
    obtain ⟨a1, k1, e1⟩ := o1.vform
    obtain ⟨a2, k2, e2⟩ := o2.vform
    exact ⟨a1, k1, a2, k2, e1, e2⟩
  have HV : Hid (vl.size ≤ maxLen) := Hid.intro (by unfold maxLen; omega)
  have HLO := Hid.intro (And.intro hS hlo)
  obtain ⟨w1, hw1⟩ : ∃ x, x = ((w.alloc (.cells #[.int .i64 ck, .slice a1 cp.length k1, .slice a2 os.length k2] 29)).alloc (.cells #[.bool bg, .int .i64 cl, .bool wt, .string vl, .int .i64 oi, .int .i64 ni] 42)).alloc (.cells #[.int .i64 0, .slice none 0 0, .slice none 0 0] 29) := ⟨_, rfl⟩
  have hbw : Below w.heap.size w w1 := hw1 ▸ (((Below.refl _ _).alloc (Nat.le_refl _) _).alloc (by simp) _).alloc (by simp <;> omega) _
  have H1 : Hid (SpB w w1 lo ck (.slice a1 cp.length k1) (.slice a2 os.length k2) cp os S bg cl wt vl oi ni) := ⟨hw1 ▸ ((Bx.new w [_, _, _] _).alloc _).alloc _, hw1 ▸ (Bx.newAt (by simp)).alloc _, hw1 ▸ Bx.newAt (by simp), h.next hbw, hbw⟩
  clear h hbw hv hS hlo
  have s0 := (H1.out.1).cell 0 rfl; have s1 := (H1.out.1).cell 1 rfl; have s2 := (H1.out.1).cell 2 rfl; have sz := (H1.out.1).2
  have t0 := (H1.out.2.1).cell 0 rfl; have t1 := (H1.out.2.1).cell 1 rfl; have t2 := (H1.out.2.1).cell 2 rfl; have t3 := (H1.out.2.1).cell 3 rfl; have t4 := (H1.out.2.1).cell 4 rfl; have t5 := (H1.out.2.1).cell 5 rfl; have tz := (H1.out.2.1).2
  have r0 := (H1.out.2.2.1).cell 0 rfl; have r1 := (H1.out.2.2.1).cell 1 rfl; have r2 := (H1.out.2.2.1).cell 2 rfl; have rz := (H1.out.2.2.1).2
  have rf0 := H1.out.2.2.1.frz 0 (by simp)
  have rf1 := H1.out.2.2.1.frz 1 (by simp)
  have rf2 := H1.out.2.2.1.frz 2 (by simp)
  go_enter Try.func89, Try.ntmps89
  go_upto_region 1 with fail
  rw [← hw1]
  clear hw1
  cases c1 : inR cl 0 9
  · have HC : Hid (inR cl 0 9 = false) := c1
    have HN : Hid (rsB ck cp os true cl wt vl oi ni = none) := Hid.intro (rsB_bno (fun q => by have := inR_iff.2 q.1; rw [c1] at this; cases this))
    clear c1
    go_wp2_with (go_at_call 61; refine (HC.out ▸ l1In_any cl 0 9 _).mono ?_; rintro e w' ⟨rfl, hw⟩; have hw := hw.symm; subst hw)
    exact bodyPost_ret (v := .tuple #[.agg #[.int .i64 ck, .slice a1 cp.length k1, .slice a2 os.length k2], .bool false]) (by simp [results, Try.results89, go_sem, *]) rfl (H1.out.no HLO.out.1 HN.out _ _ _)
  have HC : Hid (inR cl 0 9 = true) := c1
  by_cases c7 : os.length = 7
  · have HN : Hid (rsB ck cp os true cl wt vl oi ni = none) := Hid.intro (rsB_bno (fun q => by have := q.2.2.1; omega))
    have c7' : ((os.length : Int) == 7) = true := by rw [c7]; rfl
    clear c1
    go_wp2_with (go_at_call 61; refine (HC.out ▸ l1In_any cl 0 9 _).mono ?_; rintro e w' ⟨rfl, hw⟩; have hw := hw.symm; subst hw)
    exact bodyPost_ret (v := .tuple #[.agg #[.int .i64 ck, .slice a1 cp.length k1, .slice a2 os.length k2], .bool false]) (by simp [results, Try.results89, go_sem, *]) rfl (H1.out.no HLO.out.1 HN.out _ _ _)
  have c7' : ((os.length : Int) == 7) = false := by simp; omega
  cases c2 : valOk vl
  · have HC2 : Hid (valOk vl = false) := c2
    have HN : Hid (rsB ck cp os true cl wt vl oi ni = none) := Hid.intro (rsB_bno (fun q => by have := (opV_iff.1 q.2.1).1; rw [c2] at this; cases this))
    clear c1 c2
    go_wp2_with (first | (go_at_call 61; refine (HC.out ▸ l1In_any cl 0 9 _).mono ?_; rintro e w' ⟨rfl, hw⟩; have hw := hw.symm; subst hw) | (go_at_call 64; refine (HC2.out ▸ l1Value_any vl _ HV.out).mono ?_; rintro e w' ⟨rfl, hw⟩; have hw := hw.symm; subst hw))
    exact bodyPost_ret (v := .tuple #[.agg #[.int .i64 ck, .slice a1 cp.length k1, .slice a2 os.length k2], .bool false]) (by simp [results, Try.results89, go_sem, *]) rfl (H1.out.no HLO.out.1 HN.out _ _ _)
  have HC2 : Hid (valOk vl = true) := c2
  obtain ⟨z, hz⟩ : ∃ z : Bool, vl.toList.isEmpty = z := ⟨_, rfl⟩
  have HZ := Hid.intro hz
  have HOP : Hid (opV wt vl = (wt || z)) := Hid.intro (by unfold opV; rw [c2, hz]; rfl)
  cases hwz : (wt || z)
  · obtain ⟨hwr, hz0⟩ : wt = false ∧ z = false := by cases wt <;> cases z <;> simp_all
    subst hwr hz0
    have HN : Hid (rsB ck cp os true cl false vl oi ni = none) := Hid.intro (rsB_bno (fun q => by have := q.2.1; rw [HOP.out] at this; cases this))
    clear c1 c2 hwz
    go_wp2_with (first | (go_at_call 61; refine (HC.out ▸ l1In_any cl 0 9 _).mono ?_; rintro e w' ⟨rfl, hw⟩; have hw := hw.symm; subst hw) | (go_at_call 64; refine (HC2.out ▸ l1Value_any vl _ HV.out).mono ?_; rintro e w' ⟨rfl, hw⟩; have hw := hw.symm; subst hw))
    exact bodyPost_ret (v := .tuple #[.agg #[.int .i64 ck, .slice a1 cp.length k1, .slice a2 os.length k2], .bool false]) (by simp [results, Try.results89, go_sem, *]) rfl (H1.out.no HLO.out.1 HN.out _ _ _)
  have HOK : Hid ((0 ≤ cl ∧ cl ≤ 9) ∧ opV wt vl = true ∧ os.length < 7) := Hid.intro ⟨inR_iff.1 c1, by rw [HOP.out]; exact hwz, by omega⟩
  have hor : wt = true ∨ (wt = false ∧ z = true) := by cases wt <;> cases z <;> simp_all
  clear c1 c2 hwz
  have HB := Hid.intro hor
  clear hor
  go_cut [33] (fun s33 wx => s33 = .bool false ∧ wx = w1)
  case first =>
    rcases HB.out with rfl | ⟨rfl, rfl⟩
    · go_wp2_with (first | (go_at_call 61; refine (HC.out ▸ l1In_any cl 0 9 _).mono ?_; rintro e w' ⟨rfl, hw⟩; have hw := hw.symm; subst hw) | (go_at_call 64; refine (HC2.out ▸ l1Value_any vl _ HV.out).mono ?_; rintro e w' ⟨rfl, hw⟩; have hw := hw.symm; subst hw))
      go_meet
      exact ⟨rfl, rfl⟩
    · go_wp2_with (first | (go_at_call 61; refine (HC.out ▸ l1In_any cl 0 9 _).mono ?_; rintro e w' ⟨rfl, hw⟩; have hw := hw.symm; subst hw) | (go_at_call 64; refine (HC2.out ▸ l1Value_any vl _ HV.out).mono ?_; rintro e w' ⟨rfl, hw⟩; have hw := hw.symm; subst hw))
      go_meet
      exact ⟨rfl, rfl⟩
  case rest =>
    obtain ⟨rfl, rfl⟩ := hcut
    have H2 := H1
    clear H1 hz
    have HLO2 : Hid (Lies wc (.list shRegOp) [.slice a2 os.length k2] os) := Hid.intro (by
      obtain ⟨va', S1, vp', S2, e0, o1, o2, _⟩ := ownx_Register H2.out.2.2.2.1
      cases e0
      exact o2.lies)
    obtain ⟨w1, hw1⟩ : ∃ x, x = wc := ⟨_, rfl⟩
    subst hw1
    go_wp2
    clear s0 s1 s2 sz t0 t1 t2 t3 t4 t5 tz r0 r1 r2 rz rf0 rf1 rf2
    have HI : Hid (SpB w w1 lo ck (.slice a1 cp.length k1) (.slice a2 os.length k2) cp os S bg cl wt vl oi ni ∧ Below w1.heap.size w1 w1) := ⟨H2.out, Below.refl _ _⟩
    go_loopw [38] (fun i wr => ∃ k : Nat, k ≤ os.length ∧ i = .int .i64 k ∧ (SpB w wr lo ck (.slice a1 cp.length k1) (.slice a2 os.length k2) cp os S bg cl wt vl oi ni ∧ Below w1.heap.size w1 wr) ∧ ¬ bsyP (os.take k) cl) (fun i _ => os.length - (intOf i).toNat)
    case atStart => exact ⟨0, Nat.zero_le _, rfl, HI.out, fun q => by obtain ⟨o, ho, _⟩ := q; simp at ho⟩
    case round =>
      obtain ⟨k, hk, rfl, hX, hnb⟩ := hrel
      have HX : Hid (SpB w wr lo ck (.slice a1 cp.length k1) (.slice a2 os.length k2) cp os S bg cl wt vl oi ni ∧ Below w1.heap.size w1 wr) := hX
      have HNB := Hid.intro hnb
      clear hX hnb HI
      by_cases hlt : k < os.length
      · have hlt' : (k : Int) < (os.length : Int) := by omega
        have HLE : Hid (Lies wr (.list shRegOp) [.slice a2 os.length k2] os) := HLO2.out.next HX.out.2
        obtain ⟨xg, xoff, xgo, xgs, xec, xel, xhec, xle⟩ := Lies.elem (HLE.out) hlt
        subst xgo
        rcases xX : os[k] with ⟨x0, x1, x2, x3, x4, ⟨x5, x6, x7, ⟨⟩⟩, x8, x9, ⟨⟩⟩
        rw [xX] at xle
        have xH : Hid (os[k] = (x0, x1, x2, x3, x4, (x5, x6, x7, ()), x8, x9, ())) := xX
        clear xX
        obtain ⟨xa1, xk1, xev, xq1⟩ := lies_RegOp xle
        subst xev
        have xc0 : wr.cell? ⟨xg, xoff + k * 10, none⟩ = some (.int .i64 x0) := xhec 0 (by simp)
        have xc1 : wr.cell? ⟨xg, xoff + k * 10 + 1, none⟩ = some (.bool x1) := xhec 1 (by simp)
        have xc2 : wr.cell? ⟨xg, xoff + k * 10 + 2, none⟩ = some (.string x2) := xhec 2 (by simp)
        have xc3 : wr.cell? ⟨xg, xoff + k * 10 + 3, none⟩ = some (.int .i64 x3) := xhec 3 (by simp)
        have xc4 : wr.cell? ⟨xg, xoff + k * 10 + 4, none⟩ = some (.slice xa1 x4.length xk1) := xhec 4 (by simp)
        have xc5 : wr.cell? ⟨xg, xoff + k * 10 + 5, none⟩ = some (.int .i64 x5) := xhec 5 (by simp)
        have xc6 : wr.cell? ⟨xg, xoff + k * 10 + 6, none⟩ = some (.int .i64 x6) := xhec 6 (by simp)
        have xc7 : wr.cell? ⟨xg, xoff + k * 10 + 7, none⟩ = some (.string x7) := xhec 7 (by simp)
        have xc8 : wr.cell? ⟨xg, xoff + k * 10 + 8, none⟩ = some (.int .i64 x8) := xhec 8 (by simp)
        have xc9 : wr.cell? ⟨xg, xoff + k * 10 + 9, none⟩ = some (.int .i64 x9) := xhec 9 (by simp)
        clear xhec xel xle
        obtain ⟨y0, hy0⟩ : ∃ y : Int, y = x0 := ⟨_, rfl⟩
        obtain ⟨y3, hy3⟩ : ∃ y : Int, y = x3 := ⟨_, rfl⟩
        have HTB : Hid (bsyP (os.take (k + 1)) cl ↔ bsyP (os.take k) cl ∨ (y0 = cl ∧ y3 ≠ 3)) := Hid.intro (by rw [take_bsy hlt, xH.out, hy0, hy3]; exact Iff.rfl)
        subst hy0 hy3
        have HB1 : Hid (SpB w (wr.alloc (.cells #[.int .i64 y0, .bool x1, .string x2, .int .i64 y3, .slice xa1 x4.length xk1, .int .i64 x5, .int .i64 x6, .string x7, .int .i64 x8, .int .i64 x9] 53)) lo ck (.slice a1 cp.length k1) (.slice (some ⟨xg, xoff, none⟩) os.length k2) cp os S bg cl wt vl oi ni ∧ Below w1.heap.size w1 (wr.alloc (.cells #[.int .i64 y0, .bool x1, .string x2, .int .i64 y3, .slice xa1 x4.length xk1, .int .i64 x5, .int .i64 x6, .string x7, .int .i64 x8, .int .i64 x9] 53))) := ⟨HX.out.1.next (Go.Joins.below_alloc1 _ _), below_next HX.out.2 (Go.Joins.below_alloc1 _ _)⟩
        have t0 := (HX.out.1.2.1).cell 0 rfl; have t1 := (HX.out.1.2.1).cell 1 rfl; have t2 := (HX.out.1.2.1).cell 2 rfl; have t3 := (HX.out.1.2.1).cell 3 rfl; have t4 := (HX.out.1.2.1).cell 4 rfl; have t5 := (HX.out.1.2.1).cell 5 rfl; have tz := (HX.out.1.2.1).2
        by_cases e0 : y0 = cl
        · have e0' : (y0 == cl) = true := by simpa using e0
          by_cases e3 : y3 = 3
          · have e3' : (y3 == 3) = true := by simpa using e3
            have e3n : (y3 != 3) = false := by simp [e3]
            have HNX : Hid (¬ bsyP (os.take (k + 1)) cl) := Hid.intro (fun q => (HTB.out.1 q).elim HNB.out (fun r => r.2 e3))
            subst e0 e3
            go_wp2
            go_roundw
            case rel => exact ⟨k + 1, by omega, by go_num, HB1.out, HNX.out⟩
            case measure => simp [intOf]; omega
          · have e3' : (y3 == 3) = false := by simpa using e3
            have e3n : (y3 != 3) = true := by simp [e3]
            have HN : Hid (rsB ck cp os true cl wt vl oi ni = none) := Hid.intro (rsB_bno (fun q => q.2.2.2 (bsy_more (HTB.out.2 (Or.inr ⟨e0, e3⟩)))))
            subst e0
            have hb1 := HB1.out.1
            have s0 := (hb1.1).cell 0 rfl; have s1 := (hb1.1).cell 1 rfl; have s2 := (hb1.1).cell 2 rfl; have sz := (hb1.1).2
            have r0 := (hb1.2.2.1).cell 0 rfl; have r1 := (hb1.2.2.1).cell 1 rfl; have r2 := (hb1.2.2.1).cell 2 rfl; have rz := (hb1.2.2.1).2
            have rf0 := hb1.2.2.1.frz 0 (by simp)
            have rf1 := hb1.2.2.1.frz 1 (by simp)
            have rf2 := hb1.2.2.1.frz 2 (by simp)
            clear hb1
            go_wp2
            exact bodyPost_ret (v := .tuple #[.agg #[.int .i64 ck, .slice a1 cp.length k1, .slice (some ⟨xg, xoff, none⟩) os.length k2], .bool false]) (by simp [results, Try.results89, go_sem, *]) rfl (HB1.out.1.no HLO.out.1 HN.out _ _ _)
        · have e0' : (y0 == cl) = false := by simpa using e0
          have HNX : Hid (¬ bsyP (os.take (k + 1)) cl) := Hid.intro (fun q => (HTB.out.1 q).elim HNB.out (fun r => e0 r.1))
          go_wp2
          go_roundw
          case rel => exact ⟨k + 1, by omega, by go_num, HB1.out, HNX.out⟩
          case measure => simp [intOf]; omega
      · have hkn : k = os.length := by omega
        subst hkn
        have HY : Hid (begP os cl wt vl) := Hid.intro ⟨HOK.out.1, HOK.out.2.1, HOK.out.2.2, fun q => HNB.out (by rw [List.take_length]; exact q)⟩
        obtain ⟨j1, hj0, hy0, hy1, hy2⟩ := info_parts inf_RegOp
        have hx := HX.out.1
        have hwz : w.heap.size + 1 + 1 < wr.heap.size := hx.2.2.1.2
        have hlo := HLO.out.2
        have HW6 : Hid (Below wr.heap.size wr (wr.alloc (.cells #[.int .i64 cl, .bool wt, .string vl, .int .i64 1, .slice none 0 0, .int .i64 0, .int .i64 0, .string ⟨#[]⟩, .int .i64 ck, .int .i64 0] 53))) := Go.Joins.below_alloc1 _ _
        have HNW := Hid.intro (cells_new wr [.int .i64 cl, .bool wt, .string vl, .int .i64 1, .slice none 0 0, .int .i64 0, .int .i64 0, .string ⟨#[]⟩, .int .i64 ck, .int .i64 0] 53)
        have hrx : RgX wr lo w.heap.size ck (.slice a1 cp.length k1) (.slice a2 os.length k2) cp os S := ⟨hx.1, hx.2.2.2.1, fun b hb => by have := HLO.out.1 b hb; omega, by omega⟩
        obtain ⟨xs, r1, hob, hgr⟩ := (hrx.next HW6.out).grow
        have HGR := Hid.intro (And.intro r1 (And.intro hob hgr))
        have HSB := Hid.intro (hx.next HW6.out)
        have s0 := (hx.1).cell 0 rfl; have s1 := (hx.1).cell 1 rfl; have s2 := (hx.1).cell 2 rfl; have sz := (hx.1).2
        have t0 := (hx.2.1).cell 0 rfl; have t1 := (hx.2.1).cell 1 rfl; have t2 := (hx.2.1).cell 2 rfl; have t3 := (hx.2.1).cell 3 rfl; have t4 := (hx.2.1).cell 4 rfl; have t5 := (hx.2.1).cell 5 rfl; have tz := (hx.2.1).2
        clear hx hrx r1 hob hgr
        have hlz : lo ≤ wr.heap.size + 1 := by omega
        go_wp2_with (first | (at_builtin; refine wpList_append_own_at _ rfl (.tmp 55) (.tmp 65) 27 rfl lo 53 j1 (.agg #[.int .i64 0, .bool false, .string ⟨#[]⟩, .int .i64 0, .slice none 0 0, .int .i64 0, .int .i64 0, .string ⟨#[]⟩, .int .i64 0, .int .i64 0]) 10 112 Try.underlying27 hj0 hy0 hy1 hy2 rfl (by decide) (.slice a2 os.length k2) os.length xs rfl HGR.out.1 ⟨wr.heap.size, 0, none⟩ 1 1 [.int .i64 cl, .bool wt, .string vl, .int .i64 1, .slice none 0 0, .int .i64 0, .int .i64 0, .string ⟨#[]⟩, .int .i64 ck, .int .i64 0] rfl rfl HNW.out (by intro u hu; simp at hu; rcases hu with rfl | rfl | rfl | rfl | rfl | rfl | rfl | rfl | rfl | rfl <;> rfl) (by unfold maxLen; omega) (by omega) (by simp <;> omega) ?_; intro v9 w9 hown9 hgrow9 hnil9 hwh9; have HF := Hid.intro (HGR.out.2.2 wr w9 v9 (newOp ck cl wt vl) _ (TurnS.of_below HW6.out) (mkownx_RegOp OwnX.nil' (fun k q => q)) hown9 hgrow9 hwh9); have hne : ∀ b, w.heap.size ≤ b → some b ≠ (Value.slice a2 os.length k2).ownBlock := (fun b hb e => by have := HLO.out.1 _ (HGR.out.2.1 _ e.symm); omega); have HT9 := Hid.intro (HSB.out.2.1.grow hgrow9 (hne _ (by omega))); have HR9 := Hid.intro (HSB.out.2.2.1.grow hgrow9 (hne _ (by omega))); obtain ⟨⟨S8, hx8, hs8⟩, ht8, hb8⟩ := HF.out; obtain ⟨_, _, a9, c9, _, hv8⟩ := hx8.vform; have hv9 : v9 = .slice a9 (os.length + 1) c9 := (by rw [hv8, List.length_append]; rfl); clear hv8 hown9 hgrow9 hnil9 hwh9 hne s0 s1 s2 sz t0 t1 t2 t3 t4 t5 tz; subst hv9; have HX8 := Hid.intro (And.intro hx8 (And.intro hs8 ht8)); have g0 := hb8.cell 0 rfl; have g1 := hb8.cell 1 rfl; have g2 := hb8.cell 2 rfl; have gz := hb8.2; have gf0 := hb8.frz 0 (by simp); have gf2 := hb8.frz 2 (by simp); have r0 := HR9.out.cell 0 rfl; have r1 := HR9.out.cell 1 rfl; have r2 := HR9.out.cell 2 rfl; have rz := HR9.out.2; have rf0 := HR9.out.frz 0 (by simp); have rf1 := HR9.out.frz 1 (by simp); have rf2 := HR9.out.frz 2 (by simp); clear hx8 hs8 ht8 hb8; have hw : IntKind.i64.wrap (ck + 1) = ck + 1 := w64 (by omega) (by omega)))
        have hnot : ∀ b, S8 b → b ≠ w.heap.size + 1 + 1 := fun b hb e => by
          rcases HX8.out.2.1 b hb with q | q
          · have := HLO.out.1 b q; omega
          · omega
        have hT := (TurnS.of_below (S := fun b => S b ∨ w.heap.size ≤ b) HX.out.1.2.2.2.2).trans ((HX8.out.2.2.wide (S' := fun b => S b ∨ w.heap.size ≤ b) (fun b hb => hb.elim Or.inl (fun e => Or.inr (by omega)))).trans (((TurnS.refl (fun b => S b ∨ w.heap.size ≤ b) _).set (p := ⟨w.heap.size, 0, none⟩) (Or.inr (Nat.le_refl _)) (.int .i64 (ck + 1))).trans ((set3 ((w9.setCell ⟨w.heap.size, 2, none⟩ (.slice a9 (os.length + 1) c9)).setCell ⟨w.heap.size, 0, none⟩ (.int .i64 (ck + 1))) (w.heap.size + 1 + 1) (.int .i64 (ck + 1)) (.slice a1 cp.length k1) (.slice a9 (os.length + 1) c9)).wide (fun b e => Or.inr (by have e : b = w.heap.size + 1 + 1 := e; omega)))))
        refine bodyPost_ret (v := .tuple #[.agg #[.int .i64 (ck + 1), .slice a1 cp.length k1, .slice a9 (os.length + 1) c9], .bool true]) (by simp [results, Try.results89, go_sem, *]) rfl ?_
        rw [rsB_beg HY.out]
        refine ⟨ck + 1, _, _, cp, os ++ [newOp ck cl wt vl], S8, rfl, ((RgX.own HX8.out.1.2.1 (ck + 1)).set (p := ⟨w.heap.size, 0, none⟩) (fun q => (HX8.out.1.2.2.1 _ q).2 rfl) _).turn (set3 _ (w.heap.size + 1 + 1) _ _ _) (fun b hb e => hnot b hb e), fun b hb => ⟨?_, ?_⟩, ?_, fun y e => ?_⟩
        · have := (HX8.out.1.2.2.1 b hb).1; simpa using this
        · exact (HX8.out.2.1 b hb).elim Or.inl (fun q => Or.inr (by omega))
        · refine ⟨hT.1, hT.2.1, hT.2.2.1, hT.2.2.2.1, fun b hb hn => hT.2.2.2.2 b hb (fun q => q.elim hn (fun r => by omega))⟩
        · cases e; exact ⟨rfl, rfl, rfl⟩
end Go.Proofs.Ytaofolbnommpgaa
