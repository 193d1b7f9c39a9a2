/- Registers: spec.l9Step. Written by tools/mkRsW.py. -/
import Derived.Test.YtaofolbnommpgaaRsU
import Derived.Test.YtaofolbnommpgaaRsV
import Derived.Test.YtaofolbnommpgaaRhQ
import Derived.Deep.DeepCutAuto
import Derived.Deep.CutBlock
namespace Go.Proofs.Ytaofolbnommpgaa
open Go.RowKit
set_option linter.unusedVariables false
set_option linter.unusedSimpArgs false

/-- A step of the specification: none is done at the last time. -/
noncomputable def rsC (ck : Int) (cp : List (Sh.T shCopy)) (os : List (Sh.T shRegOp)) (bg : Bool) (cl : Int) (wt : Bool) (vl : ByteArray) (oi ni : Int) : Option RgD := if ck = 1000 then none else rsB ck cp os bg cl wt vl oi ni
theorem rsC_end {ck : Int} {cp : List (Sh.T shCopy)} {os : List (Sh.T shRegOp)} {bg : Bool} {cl : Int} {wt : Bool} {vl : ByteArray} {oi ni : Int} (h : ck = 1000) : rsC ck cp os bg cl wt vl oi ni = none := by unfold rsC; rw [if_pos h]
theorem rsC_on {ck : Int} {cp : List (Sh.T shCopy)} {os : List (Sh.T shRegOp)} {bg : Bool} {cl : Int} {wt : Bool} {vl : ByteArray} {oi ni : Int} (h : ck ≠ 1000) : rsC ck cp os bg cl wt vl oi ni = rsB ck cp os bg cl wt vl oi ni := by unfold rsC; rw [if_neg h]
theorem hasN_mem {l : List (Sh.T .int)} {x : Int} : hasN (atI l) x l.length = true ↔ x ∈ l := by
  have e : ∀ k, k ≤ l.length → (hasN (atI l) x k = true ↔ x ∈ l.take k) := by
    intro k
    induction k with
    | zero => intro _; simp [hasN]
    | succ k ih =>
      intro hk
      have hlt : k < l.length := by omega
      rw [List.take_succ_eq_append_getElem hlt, List.mem_append, List.mem_singleton, ← ih (by omega)]
      simp only [hasN, Bool.or_eq_true, beq_iff_eq, atI_lt hlt]
      exact ⟨fun q => q.elim Or.inl (fun r => Or.inr r.symm), fun q => q.elim Or.inl (fun r => Or.inr r.symm)⟩
  have := e l.length (Nat.le_refl _)
  rwa [List.take_length] at this
theorem go_cases {ph n i : Int} {t : ByteArray} {b0 b1 : Int} {b2 : ByteArray} {n' i' : Int} {t' : ByteArray} {d0 d1 : Int} {d2 : ByteArray} (hC : goC ph (mkCp b0 b1 b2) (mkCp n i t) = mkCp n' i' t') (hB : goB ph (mkCp b0 b1 b2) (mkCp n i t) = mkCp d0 d1 d2) :
    (ph = 1 → nwB n i b0 b1 = true → (n = n' ∧ i = i' ∧ t = t') ∧ n = d0 ∧ i = d1 ∧ t = d2) ∧ (ph = 1 → nwB n i b0 b1 = false → (n = n' ∧ i = i' ∧ t = t') ∧ b0 = d0 ∧ b1 = d1 ∧ b2 = d2) ∧
    (ph = 2 → nwB b0 b1 n i = true → (b0 = n' ∧ b1 = i' ∧ b2 = t') ∧ b0 = d0 ∧ b1 = d1 ∧ b2 = d2) ∧ (ph = 2 → nwB b0 b1 n i = false → (n = n' ∧ i = i' ∧ t = t') ∧ b0 = d0 ∧ b1 = d1 ∧ b2 = d2) := by
  have e3 : ∀ {a b c a' b' : Int} {u u' : ByteArray}, mkCp a b u = mkCp a' b' u' → a = a' ∧ b = b' ∧ u = u' := fun h => ⟨congrArg (fun z : Sh.T shCopy => z.1) h, congrArg (fun z : Sh.T shCopy => z.2.1) h, congrArg (fun z : Sh.T shCopy => z.2.2.1) h⟩
  have ny : ∀ {a c : Sh.T shCopy}, nwB c.1 c.2.1 a.1 a.2.1 = true → nwC a c = c := fun h => by unfold nwC; rw [if_pos h]
  have nn : ∀ {a c : Sh.T shCopy}, nwB c.1 c.2.1 a.1 a.2.1 = false → nwC a c = a := fun h => by unfold nwC; rw [if_neg (by rw [h]; simp)]
  refine ⟨fun h1 h2 => ?_, fun h1 h2 => ?_, fun h1 h2 => ?_, fun h1 h2 => ?_⟩
  · exact ⟨e3 (c := 0) ((goC1 h1 _ _).symm.trans hC), e3 (c := 0) (((goB1 h1 _ _).trans (ny h2)).symm.trans hB)⟩
  · exact ⟨e3 (c := 0) ((goC1 h1 _ _).symm.trans hC), e3 (c := 0) (((goB1 h1 _ _).trans (nn h2)).symm.trans hB)⟩
  · have h1' : ph ≠ 1 := by omega
    exact ⟨e3 (c := 0) (((goC2 h1' _ _).trans (ny h2)).symm.trans hC), e3 (c := 0) ((goB2 h1' _ _).symm.trans hB)⟩
  · have h1' : ph ≠ 1 := by omega
    exact ⟨e3 (c := 0) (((goC2 h1' _ _).trans (nn h2)).symm.trans hC), e3 (c := 0) ((goB2 h1' _ _).symm.trans hB)⟩
theorem TurnS.newset {S : Nat → Prop} {a w : World} (h : TurnS S a w) {p : Addr} (hp : a.heap.size ≤ p.block) (v : Value) : TurnS S a (w.setCell p v) :=
  ⟨h.1, h.2.1, h.2.2.1, by have := h.2.2.2.1; simpa using this, fun k hk hx => (Below.heap_setCell _ _ _ _ (by omega)).trans (h.2.2.2.2 k hk hx)⟩
/-- A cell elsewhere is written. -/
theorem Loc.off {W0 W : World} {lo gc oc go oo : Nat} {S0 : Nat → Prop} {v1 : Value} {B1 : Nat → Prop} {cc ec : List Value} {sn : List (Sh.T .int)} (h : Loc W0 lo gc oc go oo S0 W v1 B1 cc ec sn) {p : Addr} (hp : W0.heap.size ≤ p.block) (hB : ∀ k, B1 k → k ≠ p.block) (h1' : gc ≠ p.block) (h2' : go ≠ p.block) (v : Value) : Loc W0 lo gc oc go oo S0 (W.setCell p v) v1 B1 cc ec sn := by
  obtain ⟨h1, h2, h3, h6, h7, h8, h9, h10, h11⟩ := h
  exact ⟨h1.keep (Below.heap_setCell _ _ _ _ h1'), h2.keep (Below.heap_setCell _ _ _ _ h2'), h3.set (fun q => hB _ q rfl) _, fun k hk => ⟨(h6 k hk).1, (h6 k hk).2.1, by have := (h6 k hk).2.2.1; simpa using this, (h6 k hk).2.2.2⟩, h7, h8, h9, h10.newset hp v, h11⟩
theorem goE_cases {ck nc x0 : Int} {x1 : Bool} {x2 : ByteArray} {x3 : Int} {s : List (Sh.T .int)} {d0 d1 : Int} {d2 : ByteArray} {x8 x9 y3 e0 e1 : Int} {e2 : ByteArray} {y9 : Int} {s2 : List (Sh.T .int)} (hn : ¬ 2 * (s.length : Int) ≤ nc) (hE : goE ck nc x0 x1 x2 x3 s (mkCp d0 d1 d2) x8 x9 = mkOp x0 x1 x2 y3 s2 (mkCp e0 e1 e2) x8 y9) :
    (x3 = 1 → x1 = true → 2 = y3 ∧ [] = s2 ∧ (d0 + 1 = e0 ∧ x0 = e1 ∧ x2 = e2) ∧ x9 = y9) ∧ (x3 = 1 → x1 = false → 2 = y3 ∧ [] = s2 ∧ (d0 = e0 ∧ d1 = e1 ∧ d2 = e2) ∧ x9 = y9) ∧ (x3 = 2 → 3 = y3 ∧ [] = s2 ∧ (d0 = e0 ∧ d1 = e1 ∧ d2 = e2) ∧ ck = y9) := by
  have pr : ∀ {z3 : Int} {zs : List (Sh.T .int)} {f0 f1 : Int} {f2 : ByteArray} {z9 : Int}, mkOp x0 x1 x2 z3 zs (mkCp f0 f1 f2) x8 z9 = mkOp x0 x1 x2 y3 s2 (mkCp e0 e1 e2) x8 y9 → z3 = y3 ∧ zs = s2 ∧ (f0 = e0 ∧ f1 = e1 ∧ f2 = e2) ∧ z9 = y9 := fun h => ⟨congrArg (fun z : RgO => z.2.2.2.1) h, congrArg (fun z : RgO => z.2.2.2.2.1) h, ⟨congrArg (fun z : RgO => z.2.2.2.2.2.1.1) h, congrArg (fun z : RgO => z.2.2.2.2.2.1.2.1) h, congrArg (fun z : RgO => z.2.2.2.2.2.1.2.2.1) h⟩, congrArg (fun z : RgO => z.2.2.2.2.2.2.2.1) h⟩
  unfold goE at hE
  rw [if_neg hn] at hE
  refine ⟨fun h1 h2 => ?_, fun h1 h2 => ?_, fun h1 => ?_⟩
  · rw [if_pos h1, if_pos h2] at hE; exact pr hE
  · rw [if_pos h1, if_neg (by rw [h2]; simp)] at hE; exact pr hE
  · rw [if_neg (by omega)] at hE; exact pr hE
theorem ph12 {x : Int} (h : 1 ≤ x ∧ x ≤ 3) (h3 : ¬ x = 3) : x = 1 ∨ x = 2 := by omega
/-- Another list in the place of the op's. -/
theorem Loc.swap {W0 W : World} {lo gc oc go oo : Nat} {S0 : Nat → Prop} {v1 v5 : Value} {B1 B5 : Nat → Prop} {cc ec : List Value} {sn sn' : List (Sh.T .int)} (h : Loc W0 lo gc oc go oo S0 W v1 B1 cc ec sn) (hO : OwnX W lo (.list .int 3) [v5] sn' B5) (hB : ∀ k, B5 k → k ≠ gc ∧ k ≠ go ∧ k < W.heap.size ∧ (S0 k ∨ W0.heap.size ≤ k)) : Loc W0 lo gc oc go oo S0 W v5 B5 cc ec sn' := by
  obtain ⟨h1, h2, h3, h6, h7, h8, h9, h10, h11⟩ := h
  exact ⟨h1, h2, hO, hB, h7, h8, h9, h10, h11⟩

set_option maxRecDepth 100000 in
set_option maxHeartbeats 16000000 in
theorem l9Go_n (lo : Nat) (ck : Int) (va vp : Value) (cp : List (Sh.T shCopy)) (os : List (Sh.T shRegOp)) (S : Nat → Prop) (cl : Int) (wt : Bool) (vl : ByteArray) (oi ni : Int) (w : World) (hg : goodR ck cp os) (hk : ck ≠ 1000) (hS : ∀ b, S b → b < w.heap.size) (hlo : lo ≤ w.heap.size) (h : OwnX w lo tyRegister [.int .i64 ck, va, vp] (ck, cp, os, ()) S) :
    Calls Try.prog 47 #[.agg #[.int .i64 ck, va, vp], .agg #[.bool false, .int .i64 cl, .bool wt, .string vl, .int .i64 oi, .int .i64 ni]] w (SpP (rsB ck cp os false cl wt vl oi ni) ck w lo S) := by
  have hck := hg.1
  have hl7 := hg.2.2.1
  have hl12 := hg.2.1
  have HLO := Hid.intro (And.intro hS hlo)
  have HG := Hid.intro (And.intro hg hk)
  obtain ⟨a1, k1, a2, k2, rfl, rfl⟩ : ∃ a1 k1 a2 k2, va = .slice a1 cp.length k1 ∧ vp = .slice a2 os.length k2 := by
    obtain ⟨va', S1, vp', S2, e0, o1, o2, _⟩ := ownx_Register h
    cases e0
    obtain ⟨a1, k1, e1⟩ := o1.vform
    obtain ⟨a2, k2, e2⟩ := o2.vform
    exact ⟨a1, k1, a2, k2, e1, e2⟩
  obtain ⟨w1, hw1⟩ : ∃ x, x = ((w.alloc (.cells #[.int .i64 ck, .slice a1 cp.length k1, .slice a2 os.length k2] 29)).alloc (.cells #[.bool false, .int .i64 cl, .bool wt, .string vl, .int .i64 oi, .int .i64 ni] 42)).alloc (.cells #[.int .i64 0, .slice none 0 0, .slice none 0 0] 29) := ⟨_, rfl⟩
  have hbw : Below w.heap.size w w1 := hw1 ▸ (((Below.refl _ _).alloc (Nat.le_refl _) _).alloc (by simp) _).alloc (by simp <;> omega) _
  have H1 : Hid (SpB w w1 lo ck (.slice a1 cp.length k1) (.slice a2 os.length k2) cp os S false cl wt vl oi ni) := ⟨hw1 ▸ ((Bx.new w [_, _, _] _).alloc _).alloc _, hw1 ▸ (Bx.newAt (by simp)).alloc _, hw1 ▸ Bx.newAt (by simp), h.next hbw, hbw⟩
  clear h hbw hS hlo hg hk
  have s0 := (H1.out.1).cell 0 rfl; have s1 := (H1.out.1).cell 1 rfl; have s2 := (H1.out.1).cell 2 rfl; have sz := (H1.out.1).2
  have t0 := (H1.out.2.1).cell 0 rfl; have t1 := (H1.out.2.1).cell 1 rfl; have t2 := (H1.out.2.1).cell 2 rfl; have t3 := (H1.out.2.1).cell 3 rfl; have t4 := (H1.out.2.1).cell 4 rfl; have t5 := (H1.out.2.1).cell 5 rfl; have tz := (H1.out.2.1).2
  have r0 := (H1.out.2.2.1).cell 0 rfl; have r1 := (H1.out.2.2.1).cell 1 rfl; have r2 := (H1.out.2.2.1).cell 2 rfl; have rz := (H1.out.2.2.1).2
  have rf0 := H1.out.2.2.1.frz 0 (by simp)
  have rf1 := H1.out.2.2.1.frz 1 (by simp)
  have rf2 := H1.out.2.2.1.frz 2 (by simp)
  have ckn : (ck == 1000) = false := by simpa using HG.out.2
  have ew1 : IntKind.i64.wrap ((cp.length : Int) - 1) = (cp.length : Int) - 1 := w64 (by omega) (by omega)
  have ew2 : IntKind.i64.wrap ((os.length : Int) - 1) = (os.length : Int) - 1 := w64 (by omega) (by omega)
  go_enter Try.func47, Try.ntmps47
  go_upto_region 1 with fail
  rw [← hw1]
  clear hw1
  cases c1 : inR oi 0 ((os.length : Int) - 1)
  · have HC : Hid (inR oi 0 ((os.length : Int) - 1) = false) := c1
    have HN : Hid (rsB ck cp os false cl wt vl oi ni = none) := Hid.intro (rsB_gno (fun q => by have := inR_iff.2 q.1; rw [c1] at this; cases this))
    clear c1
    go_wp2_with (go_at_call 61; refine (HC.out ▸ l1In_any _ _ _ _).mono ?_; rintro e w' ⟨rfl, hw⟩; have hw := hw.symm; subst hw; clear HC)
    exact bodyPost_ret (v := .tuple #[.agg #[.int .i64 ck, .slice a1 cp.length k1, .slice a2 os.length k2], .bool false]) (by simp [results, Try.results47, go_sem, *]) rfl (H1.out.no HLO.out.1 HN.out _ _ _)
  cases c2 : inR ni 0 ((cp.length : Int) - 1)
  · have HC : Hid (inR oi 0 ((os.length : Int) - 1) = true) := c1
    have HC2 : Hid (inR ni 0 ((cp.length : Int) - 1) = false) := c2
    have HN : Hid (rsB ck cp os false cl wt vl oi ni = none) := Hid.intro (rsB_gno (fun q => by have := inR_iff.2 q.2.1; rw [c2] at this; cases this))
    clear c1 c2
    go_wp2_with (first | (go_at_call 61; refine (HC.out ▸ l1In_any _ _ _ _).mono ?_; rintro e w' ⟨rfl, hw⟩; have hw := hw.symm; subst hw; clear HC) | (go_at_call 61; refine (HC2.out ▸ l1In_any _ _ _ _).mono ?_; rintro e w' ⟨rfl, hw⟩; have hw := hw.symm; subst hw; clear HC2))
    exact bodyPost_ret (v := .tuple #[.agg #[.int .i64 ck, .slice a1 cp.length k1, .slice a2 os.length k2], .bool false]) (by simp [results, Try.results47, go_sem, *]) rfl (H1.out.no HLO.out.1 HN.out _ _ _)
  have ho := inR_iff.1 c1
  have hn := inR_iff.1 c2
  have HC : Hid (inR oi 0 ((os.length : Int) - 1) = true) := c1
  have HC2 : Hid (inR ni 0 ((cp.length : Int) - 1) = true) := c2
  clear c1 c2
  obtain ⟨k, rfl⟩ : ∃ k : Nat, oi = (k : Int) := ⟨oi.toNat, by omega⟩
  obtain ⟨j, rfl⟩ : ∃ j : Nat, ni = (j : Int) := ⟨ni.toNat, by omega⟩
  have hko : k < os.length := by omega
  have hjc : j < cp.length := by omega
  have hkoI : (k : Int) < (os.length : Int) := by omega
  have hjcI : (j : Int) < (cp.length : Int) := by omega
  obtain ⟨A, hA⟩ : ∃ A, cp[j] = A := ⟨_, rfl⟩
  obtain ⟨P, hP⟩ : ∃ P, os[k] = P := ⟨_, rfl⟩
  have hop : opP ck cp.length P := hP ▸ HG.out.1.2.2.2.2.1 _ (List.getElem_mem hko)
  have hcq : copQ A := hA ▸ HG.out.1.2.2.2.1 _ (List.getElem_mem hjc)
  have hgo := rsB_go (ck := ck) (cp := cp) (os := os) (cl := cl) (wr := wt) (vl := vl) (oi := (k : Int)) (ni := (j : Int))
  have hgn := rsB_gno (ck := ck) (cp := cp) (os := os) (cl := cl) (wr := wt) (vl := vl) (oi := (k : Int)) (ni := (j : Int))
  have hgp : goP cp os (k : Int) (j : Int) ↔ RgO.ph P ≠ 3 ∧ (j : Int) ∉ RgO.sn P := by
    unfold goP
    rw [Int.toNat_natCast, getD_lt hko, hP]
    exact ⟨fun q => q.2.2, fun q => ⟨ho, hn, q⟩⟩
  rw [Int.toNat_natCast, Int.toNat_natCast, getD_lt hko, getD_lt hjc, hA, hP] at hgo
  obtain ⟨n, i, t, ⟨⟩⟩ := A
  obtain ⟨x0, x1, x2, x3, sn, ⟨b0, b1, b2, ⟨⟩⟩, x8, x9, ⟨⟩⟩ := P
  have hz1 := H1.out.2.2.2.2.size
  have H1Z : w.heap.size + 1 + 1 < w1.heap.size := H1.out.2.2.1.2
  obtain ⟨ga, ka, gp, kp, v1, B1, hva, hvp, hka, hkp, hSin, hLoc, hback⟩ := reg_loc H1.out.2.2.2.1 hjc hko (by have := HLO.out.2; omega) (fun b q => by have := HLO.out.1 b q; omega) hA hP
  obtain ⟨rfl, rfl⟩ : a1 = some ⟨ga, 0, none⟩ ∧ k1 = ka := by injection hva with q1 q2 q3; exact ⟨q1, q3⟩
  obtain ⟨rfl, rfl⟩ : a2 = some ⟨gp, 0, none⟩ ∧ k2 = kp := by injection hvp with q1 q2 q3; exact ⟨q1, q3⟩
  clear hva hvp hA hP
  obtain ⟨n', i', t', hC⟩ : ∃ n' i' t', goC x3 (mkCp b0 b1 b2) (mkCp n i t) = mkCp n' i' t' := ⟨_, _, _, rfl⟩
  obtain ⟨d0, d1, d2, hB⟩ : ∃ n' i' t', goB x3 (mkCp b0 b1 b2) (mkCp n i t) = mkCp n' i' t' := ⟨_, _, _, rfl⟩
  obtain ⟨y3, sE, e0, e1, e2, y9, hE⟩ := goE_same ck cp.length x0 x1 x2 x3 (insI sn (j : Int)) (mkCp d0 d1 d2) x8 x9
  have HO : Hid (goO ck cp.length (mkOp x0 x1 x2 x3 sn (mkCp b0 b1 b2) x8 x9) (mkCp n i t) (j : Int) = mkOp x0 x1 x2 y3 sE (mkCp e0 e1 e2) x8 y9) := Hid.intro (by
    have e : goO ck cp.length (mkOp x0 x1 x2 x3 sn (mkCp b0 b1 b2) x8 x9) (mkCp n i t) (j : Int) = goE ck cp.length x0 x1 x2 x3 (insI sn (j : Int)) (goB x3 (mkCp b0 b1 b2) (mkCp n i t)) x8 x9 := rfl
    rw [e, hB, hE])
  have HGO : Hid (x3 ≠ 3 ∧ (j : Int) ∉ sn → rsB ck cp os false cl wt vl (k : Int) (j : Int) = some (cp.set j (n', i', t', ()), os.set k (x0, x1, x2, y3, sE, (e0, e1, e2, ()), x8, y9, ()))) := Hid.intro (fun q => by
    have h1 := hgo (hgp.2 q)
    refine h1.trans ?_
    show some (cp.set j (goC x3 (mkCp b0 b1 b2) (mkCp n i t)), os.set k (goO ck cp.length (mkOp x0 x1 x2 x3 sn (mkCp b0 b1 b2) x8 x9) (mkCp n i t) (j : Int))) = _
    rw [HO.out, hC])
  have HGN : Hid (¬ (x3 ≠ 3 ∧ (j : Int) ∉ sn) → rsB ck cp os false cl wt vl (k : Int) (j : Int) = none) := Hid.intro (fun q => hgn (fun e => q (hgp.1 e)))
  have HA := Hid.intro (And.intro hC (And.intro hB hE))
  have HBK := Hid.intro (And.intro hback hSin)
  have h3r : 1 ≤ x3 ∧ x3 ≤ 3 := hop.2.2.2.1
  have HSP : Hid (List.Pairwise (fun a b : Int => a ≤ b) sn) := Hid.intro ((risP_pair hop.2.2.2.2.2.2.2.2.2.2).imp (fun q => by omega))
  have hsl : sn.length ≤ 12 := by have h6 := hop.2.2.2.2.2.2.1; have h6 : 2 * (sn.length : Int) ≤ cp.length := h6; omega
  have hb0 : 0 ≤ b0 ∧ b0 ≤ 1000 := hop.2.2.2.2.1.1
  have hn0 : 0 ≤ n ∧ n ≤ 1000 := hcq.1
  have HDB := Hid.intro (goB_bound hB ⟨hb0, valOk_sz hop.2.2.2.2.1.2.2⟩ ⟨hn0, valOk_sz hcq.2.2⟩)
  obtain ⟨va, vc, hv⟩ := hLoc.2.2.1.vform
  have hv : v1 = .slice va (List.length (α := Sh.T .int) sn) vc := hv
  subst hv
  have HLC := Hid.intro hLoc
  have HB1 : Hid (∀ z, B1 z → z < w1.heap.size) := Hid.intro (fun z hz => (hLoc.2.2.2.1 z hz).2.2.1)
  have hga : ga < w.heap.size := HLO.out.1 _ (HBK.out.2 _ (Or.inl rfl))
  have hgpp : gp < w.heap.size := HLO.out.1 _ (HBK.out.2 _ (Or.inr (Or.inl rfl)))
  have o0 : w1.cell? ⟨gp, k * 10, none⟩ = some (.int .i64 x0) := hLoc.cO 0 rfl
  have o1 := hLoc.cO 1 rfl
  have o2 := hLoc.cO 2 rfl
  have o3 := hLoc.cO 3 rfl
  have o4 := hLoc.cO 4 rfl
  have o5 := hLoc.cO 5 rfl
  have o6 := hLoc.cO 6 rfl
  have o7 := hLoc.cO 7 rfl
  have o8 := hLoc.cO 8 rfl
  have o9 := hLoc.cO 9 rfl
  have oz := hLoc.lt2
  have q0 : w1.cell? ⟨ga, j * 3, none⟩ = some (.int .i64 n) := hLoc.cC 0 rfl
  have q1 := hLoc.cC 1 rfl
  have q2 := hLoc.cC 2 rfl
  have qz := hLoc.lt1
  obtain ⟨zh, hzh⟩ : ∃ zh : Bool, hasN (atI sn) (j : Int) sn.length = zh := ⟨_, rfl⟩
  have HZH : Hid (hasN (atI sn) (j : Int) sn.length = zh) := hzh
  have HZM : Hid (zh = true ↔ (j : Int) ∈ sn) := Hid.intro (hzh ▸ hasN_mem)
  clear hgo hgn hgp hop hcq hback hSin hC hB hE hLoc hzh ho hn
  have hn1 : gp ≠ w1.heap.size := Nat.ne_of_lt oz
  have hn2 : ga ≠ w1.heap.size := Nat.ne_of_lt qz
  go_upto_region 8 with (first | (go_at_call 61; refine (HC.out ▸ l1In_any _ _ _ _).mono ?_; rintro e w' ⟨rfl, hw⟩; have hw := hw.symm; subst hw; clear HC) | (go_at_call 61; refine (HC2.out ▸ l1In_any _ _ _ _).mono ?_; rintro e w' ⟨rfl, hw⟩; have hw := hw.symm; subst hw; clear HC2))
  obtain ⟨w2, hw2⟩ : ∃ x, x = w1.alloc (.cells #[.int .i64 x0, .bool x1, .string x2, .int .i64 x3, .slice va (List.length (α := Sh.T .int) sn) vc, .int .i64 b0, .int .i64 b1, .string b2, .int .i64 x8, .int .i64 x9] 53) := ⟨_, rfl⟩
  have hb2 : Below w1.heap.size w1 w2 := hw2 ▸ Go.Joins.below_alloc1 _ _
  have H2 : Hid (SpB w w2 lo ck (.slice (some ⟨ga, 0, none⟩) cp.length k1) (.slice (some ⟨gp, 0, none⟩) os.length k2) cp os S false cl wt vl (k : Int) (j : Int) ∧ Bx w2 w1.heap.size (opC x0 x1 x2 x3 (.slice va sn.length vc) b0 b1 b2 x8 x9) ∧ Loc w1 lo ga (j * 3) gp (k * 10) (locS ga gp B1) w2 (.slice va sn.length vc) B1 (cpC n i t) (opC x0 x1 x2 x3 (.slice va sn.length vc) b0 b1 b2 x8 x9) sn ∧ w2.heap.size = w1.heap.size + 1) := ⟨H1.out.next hb2, hw2 ▸ Bx.new w1 [_, _, _, _, _, _, _, _, _, _] _, HLC.out.next hb2, by rw [hw2]; simp⟩
  rw [← hw2]
  clear hw2 hb2 s0 s1 s2 sz t0 t1 t2 t3 t4 t5 tz r0 r1 r2 rz rf0 rf1 rf2 o0 o1 o2 o3 o4 o5 o6 o7 o8 o9 oz q0 q1 q2 qz H1 HLC
  have s0 := (H2.out.1.1).cell 0 rfl; have s1 := (H2.out.1.1).cell 1 rfl; have s2 := (H2.out.1.1).cell 2 rfl; have sz := (H2.out.1.1).2
  have t0 := (H2.out.1.2.1).cell 0 rfl; have t1 := (H2.out.1.2.1).cell 1 rfl; have t2 := (H2.out.1.2.1).cell 2 rfl; have t3 := (H2.out.1.2.1).cell 3 rfl; have t4 := (H2.out.1.2.1).cell 4 rfl; have t5 := (H2.out.1.2.1).cell 5 rfl; have tz := (H2.out.1.2.1).2
  have o0 := (H2.out.2.1).cell 0 rfl; have o1 := (H2.out.2.1).cell 1 rfl; have o2 := (H2.out.2.1).cell 2 rfl; have o3 := (H2.out.2.1).cell 3 rfl; have o4 := (H2.out.2.1).cell 4 rfl; have o5 := (H2.out.2.1).cell 5 rfl; have o6 := (H2.out.2.1).cell 6 rfl; have o7 := (H2.out.2.1).cell 7 rfl; have o8 := (H2.out.2.1).cell 8 rfl; have o9 := (H2.out.2.1).cell 9 rfl; have oz := (H2.out.2.1).2
  by_cases c3 : x3 = 3
  · have HN := Hid.intro (HGN.out (fun q => q.1 c3))
    have c3' : (x3 == 3) = true := by simpa using c3
    have r0 := (H2.out.1.2.2.1).cell 0 rfl; have r1 := (H2.out.1.2.2.1).cell 1 rfl; have r2 := (H2.out.1.2.2.1).cell 2 rfl; have rz := (H2.out.1.2.2.1).2
    have rf0 := H2.out.1.2.2.1.frz 0 (by simp)
    have rf1 := H2.out.1.2.2.1.frz 1 (by simp)
    have rf2 := H2.out.1.2.2.1.frz 2 (by simp)
    subst c3
    go_wp2_with fail
    exact bodyPost_ret (v := .tuple #[.agg #[.int .i64 ck, .slice (some ⟨ga, 0, none⟩) cp.length k1, .slice (some ⟨gp, 0, none⟩) os.length k2], .bool false]) (by simp [results, Try.results47, go_sem, *]) rfl (H2.out.1.no HLO.out.1 HN.out _ _ _)
  have c3' : (x3 == 3) = false := by simpa using c3
  cases zh with
  | true =>
    have HN := Hid.intro (HGN.out (fun q => q.2 (HZM.out.1 rfl)))
    have r0 := (H2.out.1.2.2.1).cell 0 rfl; have r1 := (H2.out.1.2.2.1).cell 1 rfl; have r2 := (H2.out.1.2.2.1).cell 2 rfl; have rz := (H2.out.1.2.2.1).2
    have rf0 := H2.out.1.2.2.1.frz 0 (by simp)
    have rf1 := H2.out.1.2.2.1.frz 1 (by simp)
    have rf2 := H2.out.1.2.2.1.frz 2 (by simp)
    go_wp2_with (first | (go_at_call 90; refine (HZH.out ▸ l1Has_any va sn.length vc (atI sn) (j : Int) _ (by omega) (lies_sl H2.out.2.2.1.2.2.1.lies)).mono ?_; rintro e w' ⟨rfl, hw⟩; have hw := hw.symm; subst hw))
    exact bodyPost_ret (v := .tuple #[.agg #[.int .i64 ck, .slice (some ⟨ga, 0, none⟩) cp.length k1, .slice (some ⟨gp, 0, none⟩) os.length k2], .bool false]) (by simp [results, Try.results47, go_sem, *]) rfl (H2.out.1.no HLO.out.1 HN.out _ _ _)
  | false =>
  have HGY := Hid.intro (HGO.out ⟨c3, fun q => by have := HZM.out.2 q; cases this⟩)
  have h12 : x3 = 1 ∨ x3 = 2 := ph12 h3r c3
  clear HZM HGN HGO c3
  have q0 : w2.cell? ⟨ga, j * 3, none⟩ = some (.int .i64 n) := H2.out.2.2.1.cC 0 rfl
  have q1 := H2.out.2.2.1.cC 1 rfl
  have q2 := H2.out.2.2.1.cC 2 rfl
  have qz := H2.out.2.2.1.lt1
  go_upto_block 0 with (first | (go_at_call 90; refine (HZH.out ▸ l1Has_any va sn.length vc (atI sn) (j : Int) _ (by omega) (lies_sl H2.out.2.2.1.2.2.1.lies)).mono ?_; rintro e w' ⟨rfl, hw⟩; have hw := hw.symm; subst hw))
  obtain ⟨w3, hw3⟩ : ∃ x, x = w2.alloc (.cells #[.int .i64 n, .int .i64 i, .string t] 48) := ⟨_, rfl⟩
  have hb3 : Below w2.heap.size w2 w3 := hw3 ▸ Go.Joins.below_alloc1 _ _
  have HN3 := Hid.intro H2.out.2.2.2
  have H3 : Hid (Loc w1 lo ga (j * 3) gp (k * 10) (locS ga gp B1) w3 (.slice va sn.length vc) B1 (cpC n i t) (opC x0 x1 x2 x3 (.slice va sn.length vc) b0 b1 b2 x8 x9) sn ∧ Bx w3 w.heap.size [.int .i64 ck, .slice (some ⟨ga, 0, none⟩) cp.length k1, .slice (some ⟨gp, 0, none⟩) os.length k2] ∧ Bx w3 (w.heap.size + 1) (stC false cl wt vl (k : Int) (j : Int)) ∧ Bx w3 (w.heap.size + 1 + 1) [.int .i64 0, .slice none 0 0, .slice none 0 0] ∧ Bx w3 w1.heap.size (opC x0 x1 x2 x3 (.slice va sn.length vc) b0 b1 b2 x8 x9) ∧ Bx w3 w2.heap.size (cpC n i t) ∧ Below w.heap.size w w3) := ⟨H2.out.2.2.1.next hb3, H2.out.1.1.next hb3, H2.out.1.2.1.next hb3, H2.out.1.2.2.1.next hb3, H2.out.2.1.next hb3, hw3 ▸ Bx.new w2 [_, _, _] _, below_next H2.out.1.2.2.2.2 hb3⟩
  rw [← hw3]
  clear hw3 hb3 s0 s1 s2 sz t0 t1 t2 t3 t4 t5 tz o0 o1 o2 o3 o4 o5 o6 o7 o8 o9 oz q0 q1 q2 qz H2
  have HCS := Hid.intro (go_cases HA.out.1 HA.out.2.1)
  have HTU : Hid (TurnS (fun b => S b ∨ w.heap.size ≤ b) w w3) := Hid.intro (TurnS.of_below H3.out.2.2.2.2.2.2)
  go_cut [6] (fun s6 wx => s6 = .pointer (some ⟨w1.heap.size, 0, none⟩) ∧ Loc w1 lo ga (j * 3) gp (k * 10) (locS ga gp B1) wx (.slice va sn.length vc) B1 (cpC n' i' t') (opC x0 x1 x2 x3 (.slice va sn.length vc) b0 b1 b2 x8 x9) sn ∧ Bx wx w1.heap.size (opC x0 x1 x2 x3 (.slice va sn.length vc) d0 d1 d2 x8 x9) ∧ Bx wx w.heap.size [.int .i64 ck, .slice (some ⟨ga, 0, none⟩) cp.length k1, .slice (some ⟨gp, 0, none⟩) os.length k2] ∧ Bx wx (w.heap.size + 1) (stC false cl wt vl (k : Int) (j : Int)) ∧ Bx wx (w.heap.size + 1 + 1) [.int .i64 0, .slice none 0 0, .slice none 0 0] ∧ TurnS (fun b => S b ∨ w.heap.size ≤ b) w wx)
  case first =>
    have s0 := (H3.out.2.1).cell 0 rfl; have s1 := (H3.out.2.1).cell 1 rfl; have s2 := (H3.out.2.1).cell 2 rfl; have sz := (H3.out.2.1).2
    have t0 := (H3.out.2.2.1).cell 0 rfl; have t1 := (H3.out.2.2.1).cell 1 rfl; have t2 := (H3.out.2.2.1).cell 2 rfl; have t3 := (H3.out.2.2.1).cell 3 rfl; have t4 := (H3.out.2.2.1).cell 4 rfl; have t5 := (H3.out.2.2.1).cell 5 rfl; have tz := (H3.out.2.2.1).2
    have o0 := (H3.out.2.2.2.2.1).cell 0 rfl; have o1 := (H3.out.2.2.2.2.1).cell 1 rfl; have o2 := (H3.out.2.2.2.2.1).cell 2 rfl; have o3 := (H3.out.2.2.2.2.1).cell 3 rfl; have o4 := (H3.out.2.2.2.2.1).cell 4 rfl; have o5 := (H3.out.2.2.2.2.1).cell 5 rfl; have o6 := (H3.out.2.2.2.2.1).cell 6 rfl; have o7 := (H3.out.2.2.2.2.1).cell 7 rfl; have o8 := (H3.out.2.2.2.2.1).cell 8 rfl; have o9 := (H3.out.2.2.2.2.1).cell 9 rfl; have oz := (H3.out.2.2.2.2.1).2
    have c0 := (H3.out.2.2.2.2.2.1).cell 0 rfl; have c1 := (H3.out.2.2.2.2.2.1).cell 1 rfl; have c2 := (H3.out.2.2.2.2.2.1).cell 2 rfl; have cz := (H3.out.2.2.2.2.2.1).2
    have of5 := H3.out.2.2.2.2.1.frz 5 (by simp)
    have of6 := H3.out.2.2.2.2.1.frz 6 (by simp)
    have of7 := H3.out.2.2.2.2.1.frz 7 (by simp)
    rcases h12 with rfl | rfl
    · obtain ⟨zn, hzn⟩ : ∃ z, nwB n i b0 b1 = z := ⟨_, rfl⟩
      have HZN := Hid.intro hzn
      have HTU3 : Hid (Loc w1 lo ga (j * 3) gp (k * 10) (locS ga gp B1) w3 (.slice va sn.length vc) B1 (cpC n i t) (opC x0 x1 x2 1 (.slice va sn.length vc) b0 b1 b2 x8 x9) sn ∧ Bx w3 w.heap.size [.int .i64 ck, .slice (some ⟨ga, 0, none⟩) cp.length k1, .slice (some ⟨gp, 0, none⟩) os.length k2] ∧ Bx w3 (w.heap.size + 1) (stC false cl wt vl (k : Int) (j : Int)) ∧ Bx w3 (w.heap.size + 1 + 1) [.int .i64 0, .slice none 0 0, .slice none 0 0] ∧ Bx w3 w1.heap.size (opC x0 x1 x2 1 (.slice va sn.length vc) b0 b1 b2 x8 x9) ∧ TurnS (fun b => S b ∨ w.heap.size ≤ b) w w3) := ⟨H3.out.1, H3.out.2.1, H3.out.2.2.1, H3.out.2.2.2.1, H3.out.2.2.2.2.1, HTU.out⟩
      cases zn with
      | true =>
        obtain ⟨⟨rfl, rfl, rfl⟩, rfl, rfl, rfl⟩ := HCS.out.1 rfl hzn
        clear hzn
        go_wp2_with (first | (go_at_call 86; refine (HZN.out ▸ l9Newer_n n i t b0 b1 b2 _).mono ?_; rintro r w4 ⟨rfl, hb⟩; have H4 : Hid (Loc w1 lo ga (j * 3) gp (k * 10) (locS ga gp B1) w4 (.slice va sn.length vc) B1 (cpC n i t) (opC x0 x1 x2 1 (.slice va sn.length vc) b0 b1 b2 x8 x9) sn ∧ Bx w4 w.heap.size [.int .i64 ck, .slice (some ⟨ga, 0, none⟩) cp.length k1, .slice (some ⟨gp, 0, none⟩) os.length k2] ∧ Bx w4 (w.heap.size + 1) (stC false cl wt vl (k : Int) (j : Int)) ∧ Bx w4 (w.heap.size + 1 + 1) [.int .i64 0, .slice none 0 0, .slice none 0 0] ∧ Bx w4 w1.heap.size (opC x0 x1 x2 1 (.slice va sn.length vc) b0 b1 b2 x8 x9) ∧ TurnS (fun b => S b ∨ w.heap.size ≤ b) w w4) := ⟨HTU3.out.1.next hb, HTU3.out.2.1.next hb, HTU3.out.2.2.1.next hb, HTU3.out.2.2.2.1.next hb, HTU3.out.2.2.2.2.1.next hb, HTU3.out.2.2.2.2.2.next hb⟩; have HC4 := Hid.intro (H3.out.2.2.2.2.2.1.next hb); clear hb s0 s1 s2 sz t0 t1 t2 t3 t4 t5 tz o0 o1 o2 o3 o4 o5 o6 o7 o8 o9 oz c0 c1 c2 cz of5 of6 of7; have o0 := H4.out.2.2.2.2.1.cell 0 rfl; have o1 := H4.out.2.2.2.2.1.cell 1 rfl; have o2 := H4.out.2.2.2.2.1.cell 2 rfl; have o3 := H4.out.2.2.2.2.1.cell 3 rfl; have o4 := H4.out.2.2.2.2.1.cell 4 rfl; have o5 := H4.out.2.2.2.2.1.cell 5 rfl; have o6 := H4.out.2.2.2.2.1.cell 6 rfl; have o7 := H4.out.2.2.2.2.1.cell 7 rfl; have o8 := H4.out.2.2.2.2.1.cell 8 rfl; have o9 := H4.out.2.2.2.2.1.cell 9 rfl; have oz := H4.out.2.2.2.2.1.2; have c0 := HC4.out.cell 0 rfl; have c1 := HC4.out.cell 1 rfl; have c2 := HC4.out.cell 2 rfl; have cz := HC4.out.2; have of5 := H4.out.2.2.2.2.1.frz 5 (by simp); have of6 := H4.out.2.2.2.2.1.frz 6 (by simp); have of7 := H4.out.2.2.2.2.1.frz 7 (by simp)))
        go_meet
        exact ⟨rfl, (((H4.out.1.off (p := ⟨w1.heap.size, 5, none⟩) (Nat.le_refl _) (fun z hz => Nat.ne_of_lt (HB1.out z hz)) (by show ga ≠ w1.heap.size; omega) (by show gp ≠ w1.heap.size; omega) _).off (p := ⟨w1.heap.size, 6, none⟩) (Nat.le_refl _) (fun z hz => Nat.ne_of_lt (HB1.out z hz)) (by show ga ≠ w1.heap.size; omega) (by show gp ≠ w1.heap.size; omega) _).off (p := ⟨w1.heap.size, 7, none⟩) (Nat.le_refl _) (fun z hz => Nat.ne_of_lt (HB1.out z hz)) (by show ga ≠ w1.heap.size; omega) (by show gp ≠ w1.heap.size; omega) _), ((H4.out.2.2.2.2.1.set (k := 5) (by simp) _).set (k := 6) (by simp) _).set (k := 7) (by simp) _, (((H4.out.2.1.other (by omega)).other (by omega)).other (by omega)), (((H4.out.2.2.1.other (by omega)).other (by omega)).other (by omega)), (((H4.out.2.2.2.1.other (by omega)).other (by omega)).other (by omega)), ((H4.out.2.2.2.2.2.set (p := ⟨w1.heap.size, 5, none⟩) (Or.inr (by show w.heap.size ≤ w1.heap.size; omega)) _).set (p := ⟨w1.heap.size, 6, none⟩) (Or.inr (by show w.heap.size ≤ w1.heap.size; omega)) _).set (p := ⟨w1.heap.size, 7, none⟩) (Or.inr (by show w.heap.size ≤ w1.heap.size; omega)) _⟩
      | false =>
        obtain ⟨⟨rfl, rfl, rfl⟩, rfl, rfl, rfl⟩ := HCS.out.2.1 rfl hzn
        clear hzn
        go_wp2_with (first | (go_at_call 86; refine (HZN.out ▸ l9Newer_n n i t b0 b1 b2 _).mono ?_; rintro r w4 ⟨rfl, hb⟩; have H4 : Hid (Loc w1 lo ga (j * 3) gp (k * 10) (locS ga gp B1) w4 (.slice va sn.length vc) B1 (cpC n i t) (opC x0 x1 x2 1 (.slice va sn.length vc) b0 b1 b2 x8 x9) sn ∧ Bx w4 w.heap.size [.int .i64 ck, .slice (some ⟨ga, 0, none⟩) cp.length k1, .slice (some ⟨gp, 0, none⟩) os.length k2] ∧ Bx w4 (w.heap.size + 1) (stC false cl wt vl (k : Int) (j : Int)) ∧ Bx w4 (w.heap.size + 1 + 1) [.int .i64 0, .slice none 0 0, .slice none 0 0] ∧ Bx w4 w1.heap.size (opC x0 x1 x2 1 (.slice va sn.length vc) b0 b1 b2 x8 x9) ∧ TurnS (fun b => S b ∨ w.heap.size ≤ b) w w4) := ⟨HTU3.out.1.next hb, HTU3.out.2.1.next hb, HTU3.out.2.2.1.next hb, HTU3.out.2.2.2.1.next hb, HTU3.out.2.2.2.2.1.next hb, HTU3.out.2.2.2.2.2.next hb⟩; have HC4 := Hid.intro (H3.out.2.2.2.2.2.1.next hb); clear hb s0 s1 s2 sz t0 t1 t2 t3 t4 t5 tz o0 o1 o2 o3 o4 o5 o6 o7 o8 o9 oz c0 c1 c2 cz of5 of6 of7; have o0 := H4.out.2.2.2.2.1.cell 0 rfl; have o1 := H4.out.2.2.2.2.1.cell 1 rfl; have o2 := H4.out.2.2.2.2.1.cell 2 rfl; have o3 := H4.out.2.2.2.2.1.cell 3 rfl; have o4 := H4.out.2.2.2.2.1.cell 4 rfl; have o5 := H4.out.2.2.2.2.1.cell 5 rfl; have o6 := H4.out.2.2.2.2.1.cell 6 rfl; have o7 := H4.out.2.2.2.2.1.cell 7 rfl; have o8 := H4.out.2.2.2.2.1.cell 8 rfl; have o9 := H4.out.2.2.2.2.1.cell 9 rfl; have oz := H4.out.2.2.2.2.1.2))
        go_meet
        exact ⟨rfl, H4.out.1, H4.out.2.2.2.2.1, H4.out.2.1, H4.out.2.2.1, H4.out.2.2.2.1, H4.out.2.2.2.2.2⟩
    · obtain ⟨zn, hzn⟩ : ∃ z, nwB b0 b1 n i = z := ⟨_, rfl⟩
      have HZN := Hid.intro hzn
      have HTU3 : Hid (Loc w1 lo ga (j * 3) gp (k * 10) (locS ga gp B1) w3 (.slice va sn.length vc) B1 (cpC n i t) (opC x0 x1 x2 2 (.slice va sn.length vc) b0 b1 b2 x8 x9) sn ∧ Bx w3 w.heap.size [.int .i64 ck, .slice (some ⟨ga, 0, none⟩) cp.length k1, .slice (some ⟨gp, 0, none⟩) os.length k2] ∧ Bx w3 (w.heap.size + 1) (stC false cl wt vl (k : Int) (j : Int)) ∧ Bx w3 (w.heap.size + 1 + 1) [.int .i64 0, .slice none 0 0, .slice none 0 0] ∧ Bx w3 w1.heap.size (opC x0 x1 x2 2 (.slice va sn.length vc) b0 b1 b2 x8 x9) ∧ TurnS (fun b => S b ∨ w.heap.size ≤ b) w w3) := ⟨H3.out.1, H3.out.2.1, H3.out.2.2.1, H3.out.2.2.2.1, H3.out.2.2.2.2.1, HTU.out⟩
      cases zn with
      | true =>
        obtain ⟨⟨rfl, rfl, rfl⟩, rfl, rfl, rfl⟩ := HCS.out.2.2.1 rfl hzn
        clear hzn
        go_wp2_with (first | (go_at_call 86; refine (HZN.out ▸ l9Newer_n b0 b1 b2 n i t _).mono ?_; rintro r w4 ⟨rfl, hb⟩; have H4 : Hid (Loc w1 lo ga (j * 3) gp (k * 10) (locS ga gp B1) w4 (.slice va sn.length vc) B1 (cpC n i t) (opC x0 x1 x2 2 (.slice va sn.length vc) b0 b1 b2 x8 x9) sn ∧ Bx w4 w.heap.size [.int .i64 ck, .slice (some ⟨ga, 0, none⟩) cp.length k1, .slice (some ⟨gp, 0, none⟩) os.length k2] ∧ Bx w4 (w.heap.size + 1) (stC false cl wt vl (k : Int) (j : Int)) ∧ Bx w4 (w.heap.size + 1 + 1) [.int .i64 0, .slice none 0 0, .slice none 0 0] ∧ Bx w4 w1.heap.size (opC x0 x1 x2 2 (.slice va sn.length vc) b0 b1 b2 x8 x9) ∧ TurnS (fun b => S b ∨ w.heap.size ≤ b) w w4) := ⟨HTU3.out.1.next hb, HTU3.out.2.1.next hb, HTU3.out.2.2.1.next hb, HTU3.out.2.2.2.1.next hb, HTU3.out.2.2.2.2.1.next hb, HTU3.out.2.2.2.2.2.next hb⟩; have HC4 := Hid.intro (H3.out.2.2.2.2.2.1.next hb); clear hb s0 s1 s2 sz t0 t1 t2 t3 t4 t5 tz o0 o1 o2 o3 o4 o5 o6 o7 o8 o9 oz c0 c1 c2 cz of5 of6 of7; have s0 := H4.out.2.1.cell 0 rfl; have s1 := H4.out.2.1.cell 1 rfl; have s2 := H4.out.2.1.cell 2 rfl; have sz := H4.out.2.1.2; have t0 := H4.out.2.2.1.cell 0 rfl; have t1 := H4.out.2.2.1.cell 1 rfl; have t2 := H4.out.2.2.1.cell 2 rfl; have t3 := H4.out.2.2.1.cell 3 rfl; have t4 := H4.out.2.2.1.cell 4 rfl; have t5 := H4.out.2.2.1.cell 5 rfl; have tz := H4.out.2.2.1.2; have o0 := H4.out.2.2.2.2.1.cell 0 rfl; have o1 := H4.out.2.2.2.2.1.cell 1 rfl; have o2 := H4.out.2.2.2.2.1.cell 2 rfl; have o3 := H4.out.2.2.2.2.1.cell 3 rfl; have o4 := H4.out.2.2.2.2.1.cell 4 rfl; have o5 := H4.out.2.2.2.2.1.cell 5 rfl; have o6 := H4.out.2.2.2.2.1.cell 6 rfl; have o7 := H4.out.2.2.2.2.1.cell 7 rfl; have o8 := H4.out.2.2.2.2.1.cell 8 rfl; have o9 := H4.out.2.2.2.2.1.cell 9 rfl; have oz := H4.out.2.2.2.2.1.2; have q0 : w4.cell? ⟨ga, j * 3, none⟩ = some (.int .i64 n) := H4.out.1.cC 0 rfl; have q1 := H4.out.1.cC 1 rfl; have q2 := H4.out.1.cC 2 rfl; have qz := H4.out.1.lt1; have qf0 := H4.out.1.1.frz (j * 3); have qf1 := H4.out.1.1.frz (j * 3 + 1); have qf2 := H4.out.1.1.frz (j * 3 + 2)))
        go_meet
        exact ⟨rfl, ((H4.out.1.setC (j := 0) (by simp) _).setC (j := 1) (by simp) _).setC (j := 2) (by simp) _, (((H4.out.2.2.2.2.1.other (by omega)).other (by omega)).other (by omega)), (((H4.out.2.1.other (by omega)).other (by omega)).other (by omega)), (((H4.out.2.2.1.other (by omega)).other (by omega)).other (by omega)), (((H4.out.2.2.2.1.other (by omega)).other (by omega)).other (by omega)), ((H4.out.2.2.2.2.2.set (p := ⟨ga, j * 3, none⟩) (Or.inl (HBK.out.2 _ (Or.inl rfl))) _).set (p := ⟨ga, j * 3 + 1, none⟩) (Or.inl (HBK.out.2 _ (Or.inl rfl))) _).set (p := ⟨ga, j * 3 + 2, none⟩) (Or.inl (HBK.out.2 _ (Or.inl rfl))) _⟩
      | false =>
        obtain ⟨⟨rfl, rfl, rfl⟩, rfl, rfl, rfl⟩ := HCS.out.2.2.2 rfl hzn
        clear hzn
        go_wp2_with (first | (go_at_call 86; refine (HZN.out ▸ l9Newer_n b0 b1 b2 n i t _).mono ?_; rintro r w4 ⟨rfl, hb⟩; have H4 : Hid (Loc w1 lo ga (j * 3) gp (k * 10) (locS ga gp B1) w4 (.slice va sn.length vc) B1 (cpC n i t) (opC x0 x1 x2 2 (.slice va sn.length vc) b0 b1 b2 x8 x9) sn ∧ Bx w4 w.heap.size [.int .i64 ck, .slice (some ⟨ga, 0, none⟩) cp.length k1, .slice (some ⟨gp, 0, none⟩) os.length k2] ∧ Bx w4 (w.heap.size + 1) (stC false cl wt vl (k : Int) (j : Int)) ∧ Bx w4 (w.heap.size + 1 + 1) [.int .i64 0, .slice none 0 0, .slice none 0 0] ∧ Bx w4 w1.heap.size (opC x0 x1 x2 2 (.slice va sn.length vc) b0 b1 b2 x8 x9) ∧ TurnS (fun b => S b ∨ w.heap.size ≤ b) w w4) := ⟨HTU3.out.1.next hb, HTU3.out.2.1.next hb, HTU3.out.2.2.1.next hb, HTU3.out.2.2.2.1.next hb, HTU3.out.2.2.2.2.1.next hb, HTU3.out.2.2.2.2.2.next hb⟩; have HC4 := Hid.intro (H3.out.2.2.2.2.2.1.next hb); clear hb s0 s1 s2 sz t0 t1 t2 t3 t4 t5 tz o0 o1 o2 o3 o4 o5 o6 o7 o8 o9 oz c0 c1 c2 cz of5 of6 of7; skip))
        go_meet
        exact ⟨rfl, H4.out.1, H4.out.2.2.2.2.1, H4.out.2.1, H4.out.2.2.1, H4.out.2.2.2.1, H4.out.2.2.2.2.2⟩
  case rest =>
  obtain ⟨rfl, hc1, hc2, hc3, hc4, hc5, hc6⟩ := hcut
  have HLT5 : Hid (Lies wc (.list .int) [.slice va sn.length vc] sn) := Hid.intro hc1.2.2.1.lies
  have H5 : Hid (Loc w1 lo ga (j * 3) gp (k * 10) (locS ga gp B1) wc (.slice va sn.length vc) B1 (cpC n' i' t') (opC x0 x1 x2 x3 (.slice va sn.length vc) b0 b1 b2 x8 x9) sn ∧ Bx wc w1.heap.size (opC x0 x1 x2 x3 (.slice va sn.length vc) d0 d1 d2 x8 x9) ∧ Bx wc w.heap.size [.int .i64 ck, .slice (some ⟨ga, 0, none⟩) cp.length k1, .slice (some ⟨gp, 0, none⟩) os.length k2] ∧ Bx wc (w.heap.size + 1) (stC false cl wt vl (k : Int) (j : Int)) ∧ Bx wc (w.heap.size + 1 + 1) [.int .i64 0, .slice none 0 0, .slice none 0 0] ∧ TurnS (fun b => S b ∨ w.heap.size ≤ b) w wc) := ⟨hc1, hc2, hc3, hc4, hc5, hc6⟩
  clear hc1 hc2 hc3 hc4 hc5 hc6
  obtain ⟨w5, hw5⟩ : ∃ x, x = wc := ⟨_, rfl⟩
  subst hw5
  have t0 := (H5.out.2.2.2.1).cell 0 rfl; have t1 := (H5.out.2.2.2.1).cell 1 rfl; have t2 := (H5.out.2.2.2.1).cell 2 rfl; have t3 := (H5.out.2.2.2.1).cell 3 rfl; have t4 := (H5.out.2.2.2.1).cell 4 rfl; have t5 := (H5.out.2.2.2.1).cell 5 rfl; have tz := (H5.out.2.2.2.1).2
  have o0 := (H5.out.2.1).cell 0 rfl; have o1 := (H5.out.2.1).cell 1 rfl; have o2 := (H5.out.2.1).cell 2 rfl; have o3 := (H5.out.2.1).cell 3 rfl; have o4 := (H5.out.2.1).cell 4 rfl; have o5 := (H5.out.2.1).cell 5 rfl; have o6 := (H5.out.2.1).cell 6 rfl; have o7 := (H5.out.2.1).cell 7 rfl; have o8 := (H5.out.2.1).cell 8 rfl; have o9 := (H5.out.2.1).cell 9 rfl; have oz := (H5.out.2.1).2
  have of4 := H5.out.2.1.frz 4 (by simp)
  go_upto_region 16 with (first | (go_at_call 91; refine (l9Put_n _ sn (j : Int) lo B1 w5 (by omega) HSP.out H5.out.1.2.2.1).mono ?_; rintro r w6 ⟨v6, rfl, hA6⟩; have H6 : Hid (Loc w1 lo ga (j * 3) gp (k * 10) (locS ga gp B1) w6 (.slice va sn.length vc) B1 (cpC n' i' t') (opC x0 x1 x2 x3 (.slice va sn.length vc) b0 b1 b2 x8 x9) sn ∧ Bx w6 w1.heap.size (opC x0 x1 x2 x3 (.slice va sn.length vc) d0 d1 d2 x8 x9) ∧ Bx w6 w.heap.size [.int .i64 ck, .slice (some ⟨ga, 0, none⟩) cp.length k1, .slice (some ⟨gp, 0, none⟩) os.length k2] ∧ Bx w6 (w.heap.size + 1) (stC false cl wt vl (k : Int) (j : Int)) ∧ Bx w6 (w.heap.size + 1 + 1) [.int .i64 0, .slice none 0 0, .slice none 0 0] ∧ TurnS (fun b => S b ∨ w.heap.size ≤ b) w w6) := ⟨H5.out.1.next hA6.2, H5.out.2.1.next hA6.2, H5.out.2.2.1.next hA6.2, H5.out.2.2.2.1.next hA6.2, H5.out.2.2.2.2.1.next hA6.2, H5.out.2.2.2.2.2.next hA6.2⟩; have HA6 := Hid.intro (And.intro hA6 (And.intro H5.out.2.1.2 (show lo ≤ w5.heap.size from Nat.le_trans H5.out.1.2.2.2.2.2.2.2.2 H5.out.1.2.2.2.2.2.2.2.1.size))); obtain ⟨a6, k6, hv6⟩ := hA6.1.vform; (have hv9 : v6 = .slice a6 (List.length (α := Sh.T .int) (insI sn (j : Int))) k6 := hv6); clear hv6 hA6 t0 t1 t2 t3 t4 t5 tz o0 o1 o2 o3 o4 o5 o6 o7 o8 o9 oz of4; subst hv9; have o0 := H6.out.2.1.cell 0 rfl; have o1 := H6.out.2.1.cell 1 rfl; have o2 := H6.out.2.1.cell 2 rfl; have o3 := H6.out.2.1.cell 3 rfl; have o4 := H6.out.2.1.cell 4 rfl; have o5 := H6.out.2.1.cell 5 rfl; have o6 := H6.out.2.1.cell 6 rfl; have o7 := H6.out.2.1.cell 7 rfl; have o8 := H6.out.2.1.cell 8 rfl; have o9 := H6.out.2.1.cell 9 rfl; have oz := H6.out.2.1.2; have of4 := H6.out.2.1.frz 4 (by simp)))
  obtain ⟨IS, hIS⟩ : ∃ IS, IS = insI sn (j : Int) := ⟨_, rfl⟩
  have hil : IS.length ≤ 13 := by rw [hIS, insI_len]; omega
  rw [← hIS] at HA6 HA ⊢
  clear hIS
  obtain ⟨w7, hw7⟩ : ∃ x, x = w6.setCell ⟨w1.heap.size, 4, none⟩ (.slice a6 (List.length (α := Sh.T .int) IS) k6) := ⟨_, rfl⟩
  have hbnd : ∀ z, Btw w5.heap.size w6.heap.size z → w1.heap.size < z ∧ z < w6.heap.size := fun z hz => by have := HA6.out.2.1; simp only [Btw] at hz; omega
  have H7 : Hid (Loc w1 lo ga (j * 3) gp (k * 10) (locS ga gp B1) w7 (.slice va sn.length vc) B1 (cpC n' i' t') (opC x0 x1 x2 x3 (.slice va sn.length vc) b0 b1 b2 x8 x9) sn ∧ Bx w7 w1.heap.size (opC x0 x1 x2 x3 (.slice a6 IS.length k6) d0 d1 d2 x8 x9) ∧ OwnX w7 lo (.list .int 3) [(.slice a6 IS.length k6)] IS (Btw w5.heap.size w6.heap.size) ∧ (∀ z, (Btw w5.heap.size w6.heap.size) z → w1.heap.size < z ∧ z < w7.heap.size) ∧ Bx w7 w.heap.size [.int .i64 ck, .slice (some ⟨ga, 0, none⟩) cp.length k1, .slice (some ⟨gp, 0, none⟩) os.length k2] ∧ Bx w7 (w.heap.size + 1) (stC false cl wt vl (k : Int) (j : Int)) ∧ Bx w7 (w.heap.size + 1 + 1) [.int .i64 0, .slice none 0 0, .slice none 0 0] ∧ TurnS (fun b => S b ∨ w.heap.size ≤ b) w w7) := by
    rw [hw7]
    exact ⟨(H6.out.1.off (p := ⟨w1.heap.size, 4, none⟩) (Nat.le_refl _) (fun z hz => Nat.ne_of_lt (HB1.out z hz)) (by show ga ≠ w1.heap.size; omega) (by show gp ≠ w1.heap.size; omega) _), H6.out.2.1.set (k := 4) (by simp) _, (HA6.out.1.1.lower HA6.out.2.2).set (p := ⟨w1.heap.size, 4, none⟩) (fun q => by have h9 := (hbnd _ q).1; have h9 : w1.heap.size < w1.heap.size := h9; omega) _, fun z hz => ⟨(hbnd z hz).1, by have := (hbnd z hz).2; simpa using this⟩, H6.out.2.2.1.other (by omega), H6.out.2.2.2.1.other (by omega), H6.out.2.2.2.2.1.other (by omega), H6.out.2.2.2.2.2.set (p := ⟨w1.heap.size, 4, none⟩) (Or.inr (by show w.heap.size ≤ w1.heap.size; omega)) _⟩
  rw [← hw7]
  clear hw7 hbnd HA6 H6 H5 HLT5 o0 o1 o2 o3 o4 o5 o6 o7 o8 o9 oz of4
  have s0 := (H7.out.2.2.2.2.1).cell 0 rfl; have s1 := (H7.out.2.2.2.2.1).cell 1 rfl; have s2 := (H7.out.2.2.2.2.1).cell 2 rfl; have sz := (H7.out.2.2.2.2.1).2
  have o0 := (H7.out.2.1).cell 0 rfl; have o1 := (H7.out.2.1).cell 1 rfl; have o2 := (H7.out.2.1).cell 2 rfl; have o3 := (H7.out.2.1).cell 3 rfl; have o4 := (H7.out.2.1).cell 4 rfl; have o5 := (H7.out.2.1).cell 5 rfl; have o6 := (H7.out.2.1).cell 6 rfl; have o7 := (H7.out.2.1).cell 7 rfl; have o8 := (H7.out.2.1).cell 8 rfl; have o9 := (H7.out.2.1).cell 9 rfl; have oz := (H7.out.2.1).2
  have ew3 : IntKind.i64.wrap (2 * (IS.length : Int)) = 2 * (IS.length : Int) := w64 (by omega) (by omega)
  go_upto_if 103 with fail
  go_cut [6] (fun s6 wx => s6 = .pointer (some ⟨w1.heap.size, 0, none⟩) ∧ ∃ a8 k8, ∃ B8 : Nat → Prop, Loc w1 lo ga (j * 3) gp (k * 10) (locS ga gp B1) wx (.slice va sn.length vc) B1 (cpC n' i' t') (opC x0 x1 x2 x3 (.slice va sn.length vc) b0 b1 b2 x8 x9) sn ∧ Bx wx w1.heap.size (opC x0 x1 x2 y3 (.slice a8 sE.length k8) e0 e1 e2 x8 y9) ∧ OwnX wx lo (.list .int 3) [(.slice a8 sE.length k8)] sE B8 ∧ (∀ z, B8 z → w1.heap.size < z ∧ z < wx.heap.size) ∧ Bx wx w.heap.size [.int .i64 ck, .slice (some ⟨ga, 0, none⟩) cp.length k1, .slice (some ⟨gp, 0, none⟩) os.length k2] ∧ Bx wx (w.heap.size + 1) (stC false cl wt vl (k : Int) (j : Int)) ∧ Bx wx (w.heap.size + 1 + 1) [.int .i64 0, .slice none 0 0, .slice none 0 0] ∧ TurnS (fun b => S b ∨ w.heap.size ≤ b) w wx)
  case first =>
    by_cases hle : 2 * (IS.length : Int) ≤ (cp.length : Int)
    · have hle' : ¬ (cp.length : Int) < 2 * (IS.length : Int) := by omega
      obtain ⟨rfl, rfl, rfl, rfl, rfl, rfl⟩ := goE_keep hle HA.out.2.2
      go_wp2
      go_meet
      exact ⟨rfl, _, _, _, H7.out⟩
    · have hle' : (cp.length : Int) < 2 * (IS.length : Int) := by omega
      have HEC := Hid.intro (goE_cases hle HA.out.2.2)
      have of3 := H7.out.2.1.frz 3 (by simp)
      have of4 := H7.out.2.1.frz 4 (by simp)
      have of5 := H7.out.2.1.frz 5 (by simp)
      have of6 := H7.out.2.1.frz 6 (by simp)
      have of7 := H7.out.2.1.frz 7 (by simp)
      have of9 := H7.out.2.1.frz 9 (by simp)
      have hd01 := HDB.out.1.1
      have hd02 := HDB.out.1.2
      have hdw : IntKind.i64.wrap (d0 + 1) = d0 + 1 := w64 (by have h9 : 0 ≤ d0 := hd01; omega) (by have h9 : d0 ≤ 1000 := hd02; omega)
      clear hle
      rcases h12 with rfl | rfl
      · cases x1
        · obtain ⟨rfl, rfl, ⟨rfl, rfl, rfl⟩, rfl⟩ := HEC.out.2.1 rfl rfl
          go_wp2
          go_meet
          exact ⟨rfl, _, _, (fun _ => False), ((H7.out.1.off (p := ⟨w1.heap.size, 4, none⟩) (Nat.le_refl _) (fun z hz => Nat.ne_of_lt (HB1.out z hz)) (by show ga ≠ w1.heap.size; omega) (by show gp ≠ w1.heap.size; omega) _).off (p := ⟨w1.heap.size, 3, none⟩) (Nat.le_refl _) (fun z hz => Nat.ne_of_lt (HB1.out z hz)) (by show ga ≠ w1.heap.size; omega) (by show gp ≠ w1.heap.size; omega) _), ((H7.out.2.1.set (k := 4) (by simp) _).set (k := 3) (by simp) _), OwnX.nil', (fun z hz => hz.elim), ((H7.out.2.2.2.2.1.other (by omega)).other (by omega)), ((H7.out.2.2.2.2.2.1.other (by omega)).other (by omega)), ((H7.out.2.2.2.2.2.2.1.other (by omega)).other (by omega)), ((H7.out.2.2.2.2.2.2.2.set (p := ⟨w1.heap.size, 4, none⟩) (Or.inr (by show w.heap.size ≤ w1.heap.size; omega)) _).set (p := ⟨w1.heap.size, 3, none⟩) (Or.inr (by show w.heap.size ≤ w1.heap.size; omega)) _)⟩
        · obtain ⟨rfl, rfl, ⟨rfl, rfl, rfl⟩, rfl⟩ := HEC.out.1 rfl rfl
          go_wp2
          go_meet
          exact ⟨rfl, _, _, (fun _ => False), (((((H7.out.1.off (p := ⟨w1.heap.size, 4, none⟩) (Nat.le_refl _) (fun z hz => Nat.ne_of_lt (HB1.out z hz)) (by show ga ≠ w1.heap.size; omega) (by show gp ≠ w1.heap.size; omega) _).off (p := ⟨w1.heap.size, 3, none⟩) (Nat.le_refl _) (fun z hz => Nat.ne_of_lt (HB1.out z hz)) (by show ga ≠ w1.heap.size; omega) (by show gp ≠ w1.heap.size; omega) _).off (p := ⟨w1.heap.size, 5, none⟩) (Nat.le_refl _) (fun z hz => Nat.ne_of_lt (HB1.out z hz)) (by show ga ≠ w1.heap.size; omega) (by show gp ≠ w1.heap.size; omega) _).off (p := ⟨w1.heap.size, 6, none⟩) (Nat.le_refl _) (fun z hz => Nat.ne_of_lt (HB1.out z hz)) (by show ga ≠ w1.heap.size; omega) (by show gp ≠ w1.heap.size; omega) _).off (p := ⟨w1.heap.size, 7, none⟩) (Nat.le_refl _) (fun z hz => Nat.ne_of_lt (HB1.out z hz)) (by show ga ≠ w1.heap.size; omega) (by show gp ≠ w1.heap.size; omega) _), (((((H7.out.2.1.set (k := 4) (by simp) _).set (k := 3) (by simp) _).set (k := 5) (by simp) _).set (k := 6) (by simp) _).set (k := 7) (by simp) _), OwnX.nil', (fun z hz => hz.elim), (((((H7.out.2.2.2.2.1.other (by omega)).other (by omega)).other (by omega)).other (by omega)).other (by omega)), (((((H7.out.2.2.2.2.2.1.other (by omega)).other (by omega)).other (by omega)).other (by omega)).other (by omega)), (((((H7.out.2.2.2.2.2.2.1.other (by omega)).other (by omega)).other (by omega)).other (by omega)).other (by omega)), (((((H7.out.2.2.2.2.2.2.2.set (p := ⟨w1.heap.size, 4, none⟩) (Or.inr (by show w.heap.size ≤ w1.heap.size; omega)) _).set (p := ⟨w1.heap.size, 3, none⟩) (Or.inr (by show w.heap.size ≤ w1.heap.size; omega)) _).set (p := ⟨w1.heap.size, 5, none⟩) (Or.inr (by show w.heap.size ≤ w1.heap.size; omega)) _).set (p := ⟨w1.heap.size, 6, none⟩) (Or.inr (by show w.heap.size ≤ w1.heap.size; omega)) _).set (p := ⟨w1.heap.size, 7, none⟩) (Or.inr (by show w.heap.size ≤ w1.heap.size; omega)) _)⟩
      · obtain ⟨rfl, rfl, ⟨rfl, rfl, rfl⟩, rfl⟩ := HEC.out.2.2 rfl
        go_wp2
        go_meet
        exact ⟨rfl, _, _, (fun _ => False), (((H7.out.1.off (p := ⟨w1.heap.size, 4, none⟩) (Nat.le_refl _) (fun z hz => Nat.ne_of_lt (HB1.out z hz)) (by show ga ≠ w1.heap.size; omega) (by show gp ≠ w1.heap.size; omega) _).off (p := ⟨w1.heap.size, 3, none⟩) (Nat.le_refl _) (fun z hz => Nat.ne_of_lt (HB1.out z hz)) (by show ga ≠ w1.heap.size; omega) (by show gp ≠ w1.heap.size; omega) _).off (p := ⟨w1.heap.size, 9, none⟩) (Nat.le_refl _) (fun z hz => Nat.ne_of_lt (HB1.out z hz)) (by show ga ≠ w1.heap.size; omega) (by show gp ≠ w1.heap.size; omega) _), (((H7.out.2.1.set (k := 4) (by simp) _).set (k := 3) (by simp) _).set (k := 9) (by simp) _), OwnX.nil', (fun z hz => hz.elim), (((H7.out.2.2.2.2.1.other (by omega)).other (by omega)).other (by omega)), (((H7.out.2.2.2.2.2.1.other (by omega)).other (by omega)).other (by omega)), (((H7.out.2.2.2.2.2.2.1.other (by omega)).other (by omega)).other (by omega)), (((H7.out.2.2.2.2.2.2.2.set (p := ⟨w1.heap.size, 4, none⟩) (Or.inr (by show w.heap.size ≤ w1.heap.size; omega)) _).set (p := ⟨w1.heap.size, 3, none⟩) (Or.inr (by show w.heap.size ≤ w1.heap.size; omega)) _).set (p := ⟨w1.heap.size, 9, none⟩) (Or.inr (by show w.heap.size ≤ w1.heap.size; omega)) _)⟩
  case rest =>
  obtain ⟨rfl, a8, k8, B8, hc0⟩ := hcut
  obtain ⟨w8, hw8⟩ : ∃ x, x = wc := ⟨_, rfl⟩
  subst hw8
  have H8 := Hid.intro hc0
  clear hc0 H7 s0 s1 s2 sz o0 o1 o2 o3 o4 o5 o6 o7 o8 o9 oz
  have s0 := (H8.out.2.2.2.2.1).cell 0 rfl; have s1 := (H8.out.2.2.2.2.1).cell 1 rfl; have s2 := (H8.out.2.2.2.2.1).cell 2 rfl; have sz := (H8.out.2.2.2.2.1).2
  have t0 := (H8.out.2.2.2.2.2.1).cell 0 rfl; have t1 := (H8.out.2.2.2.2.2.1).cell 1 rfl; have t2 := (H8.out.2.2.2.2.2.1).cell 2 rfl; have t3 := (H8.out.2.2.2.2.2.1).cell 3 rfl; have t4 := (H8.out.2.2.2.2.2.1).cell 4 rfl; have t5 := (H8.out.2.2.2.2.2.1).cell 5 rfl; have tz := (H8.out.2.2.2.2.2.1).2
  have o0 := (H8.out.2.1).cell 0 rfl; have o1 := (H8.out.2.1).cell 1 rfl; have o2 := (H8.out.2.1).cell 2 rfl; have o3 := (H8.out.2.1).cell 3 rfl; have o4 := (H8.out.2.1).cell 4 rfl; have o5 := (H8.out.2.1).cell 5 rfl; have o6 := (H8.out.2.1).cell 6 rfl; have o7 := (H8.out.2.1).cell 7 rfl; have o8 := (H8.out.2.1).cell 8 rfl; have o9 := (H8.out.2.1).cell 9 rfl; have oz := (H8.out.2.1).2
  have r0 := (H8.out.2.2.2.2.2.2.1).cell 0 rfl; have r1 := (H8.out.2.2.2.2.2.2.1).cell 1 rfl; have r2 := (H8.out.2.2.2.2.2.2.1).cell 2 rfl; have rz := (H8.out.2.2.2.2.2.2.1).2
  have sf0 := H8.out.2.2.2.2.1.frz 0 (by simp)
  have rf0 := H8.out.2.2.2.2.2.2.1.frz 0 (by simp)
  have rf1 := H8.out.2.2.2.2.2.2.1.frz 1 (by simp)
  have rf2 := H8.out.2.2.2.2.2.2.1.frz 2 (by simp)
  have p0 : w8.cell? ⟨gp, k * 10, none⟩ = some (.int .i64 x0) := H8.out.1.cO 0 rfl
  have p1 := H8.out.1.cO 1 rfl
  have p2 := H8.out.1.cO 2 rfl
  have p3 := H8.out.1.cO 3 rfl
  have p4 := H8.out.1.cO 4 rfl
  have p5 := H8.out.1.cO 5 rfl
  have p6 := H8.out.1.cO 6 rfl
  have p7 := H8.out.1.cO 7 rfl
  have p8 := H8.out.1.cO 8 rfl
  have p9 := H8.out.1.cO 9 rfl
  have pf0 := H8.out.1.2.1.frz (k * 10)
  have pf1 := H8.out.1.2.1.frz (k * 10 + 1)
  have pf2 := H8.out.1.2.1.frz (k * 10 + 2)
  have pf3 := H8.out.1.2.1.frz (k * 10 + 3)
  have pf4 := H8.out.1.2.1.frz (k * 10 + 4)
  have pf5 := H8.out.1.2.1.frz (k * 10 + 5)
  have pf6 := H8.out.1.2.1.frz (k * 10 + 6)
  have pf7 := H8.out.1.2.1.frz (k * 10 + 7)
  have pf8 := H8.out.1.2.1.frz (k * 10 + 8)
  have pf9 := H8.out.1.2.1.frz (k * 10 + 9)
  have pz := H8.out.1.lt2
  have ew4 : IntKind.i64.wrap (ck + 1) = ck + 1 := w64 (by omega) (by omega)
  obtain ⟨W9, hW9⟩ : ∃ x, x = ((((((((((w8.setCell ⟨gp, k * 10, none⟩ (.int .i64 x0)).setCell ⟨gp, k * 10 + 1, none⟩ (.bool x1)).setCell ⟨gp, k * 10 + 2, none⟩ (.string x2)).setCell ⟨gp, k * 10 + 3, none⟩ (.int .i64 y3)).setCell ⟨gp, k * 10 + 4, none⟩ (.slice a8 (List.length (α := Sh.T .int) sE) k8)).setCell ⟨gp, k * 10 + 5, none⟩ (.int .i64 e0)).setCell ⟨gp, k * 10 + 6, none⟩ (.int .i64 e1)).setCell ⟨gp, k * 10 + 7, none⟩ (.string e2)).setCell ⟨gp, k * 10 + 8, none⟩ (.int .i64 x8)).setCell ⟨gp, k * 10 + 9, none⟩ (.int .i64 y9)) := ⟨_, rfl⟩
  have HLF : Hid (Loc w1 lo ga (j * 3) gp (k * 10) (locS ga gp B1) W9 (.slice a8 sE.length k8) B8 (cpC n' i' t') (opC x0 x1 x2 y3 (.slice a8 sE.length k8) e0 e1 e2 x8 y9) sE) := Hid.intro (by
    rw [hW9]
    exact (((((((((((H8.out.1.swap H8.out.2.2.1 (fun z hz => by have h9 := H8.out.2.2.2.1 z hz; exact ⟨by omega, by omega, h9.2, Or.inr (by omega)⟩)).setO (j := 0) (by simp) (.int .i64 x0)).setO (j := 1) (by simp) (.bool x1)).setO (j := 2) (by simp) (.string x2)).setO (j := 3) (by simp) (.int .i64 y3)).setO (j := 4) (by simp) (.slice a8 (List.length (α := Sh.T .int) sE) k8)).setO (j := 5) (by simp) (.int .i64 e0)).setO (j := 6) (by simp) (.int .i64 e1)).setO (j := 7) (by simp) (.string e2)).setO (j := 8) (by simp) (.int .i64 x8)).setO (j := 9) (by simp) (.int .i64 y9)))
  have HTF : Hid (TurnS (fun b => S b ∨ w.heap.size ≤ b) w W9 ∧ Bx W9 w.heap.size [.int .i64 ck, .slice (some ⟨ga, 0, none⟩) cp.length k1, .slice (some ⟨gp, 0, none⟩) os.length k2] ∧ Bx W9 (w.heap.size + 1 + 1) [.int .i64 0, .slice none 0 0, .slice none 0 0]) := Hid.intro (by
    rw [hW9]
    exact ⟨((((((((((H8.out.2.2.2.2.2.2.2.set (p := ⟨gp, k * 10, none⟩) (Or.inl (HBK.out.2 _ (Or.inr (Or.inl rfl)))) _).set (p := ⟨gp, k * 10 + 1, none⟩) (Or.inl (HBK.out.2 _ (Or.inr (Or.inl rfl)))) _).set (p := ⟨gp, k * 10 + 2, none⟩) (Or.inl (HBK.out.2 _ (Or.inr (Or.inl rfl)))) _).set (p := ⟨gp, k * 10 + 3, none⟩) (Or.inl (HBK.out.2 _ (Or.inr (Or.inl rfl)))) _).set (p := ⟨gp, k * 10 + 4, none⟩) (Or.inl (HBK.out.2 _ (Or.inr (Or.inl rfl)))) _).set (p := ⟨gp, k * 10 + 5, none⟩) (Or.inl (HBK.out.2 _ (Or.inr (Or.inl rfl)))) _).set (p := ⟨gp, k * 10 + 6, none⟩) (Or.inl (HBK.out.2 _ (Or.inr (Or.inl rfl)))) _).set (p := ⟨gp, k * 10 + 7, none⟩) (Or.inl (HBK.out.2 _ (Or.inr (Or.inl rfl)))) _).set (p := ⟨gp, k * 10 + 8, none⟩) (Or.inl (HBK.out.2 _ (Or.inr (Or.inl rfl)))) _).set (p := ⟨gp, k * 10 + 9, none⟩) (Or.inl (HBK.out.2 _ (Or.inr (Or.inl rfl)))) _), ((((((((((H8.out.2.2.2.2.1.other (by omega)).other (by omega)).other (by omega)).other (by omega)).other (by omega)).other (by omega)).other (by omega)).other (by omega)).other (by omega)).other (by omega)), ((((((((((H8.out.2.2.2.2.2.2.1.other (by omega)).other (by omega)).other (by omega)).other (by omega)).other (by omega)).other (by omega)).other (by omega)).other (by omega)).other (by omega)).other (by omega))⟩)
  go_upto_region 24 with fail
  rw [← hW9]
  clear hW9 s0 s1 s2 sz t0 t1 t2 t3 t4 t5 tz o0 o1 o2 o3 o4 o5 o6 o7 o8 o9 oz r0 r1 r2 rz sf0 rf0 rf1 rf2 p0 p1 p2 p3 p4 p5 p6 p7 p8 p9 pf0 pf1 pf2 pf3 pf4 pf5 pf6 pf7 pf8 pf9 pz H8
  have s0 := (HTF.out.2.1).cell 0 rfl; have s1 := (HTF.out.2.1).cell 1 rfl; have s2 := (HTF.out.2.1).cell 2 rfl; have sz := (HTF.out.2.1).2
  have r0 := (HTF.out.2.2).cell 0 rfl; have r1 := (HTF.out.2.2).cell 1 rfl; have r2 := (HTF.out.2.2).cell 2 rfl; have rz := (HTF.out.2.2).2
  have sf0 := HTF.out.2.1.frz 0 (by simp)
  have rf0 := HTF.out.2.2.frz 0 (by simp)
  have rf1 := HTF.out.2.2.frz 1 (by simp)
  have rf2 := HTF.out.2.2.frz 2 (by simp)
  go_wp2
  have hz9 := HTF.out.1.size
  have hOX := HBK.out.1 W9 _ B8 n' i' t' x0 x1 x2 y3 sE e0 e1 e2 x8 y9 HLF.out (ck + 1)
  have hz19 := HLF.out.2.2.2.2.2.2.2.1.size
  have hnb : ∀ b, (S b ∨ (w1.heap.size ≤ b ∧ b < W9.heap.size)) → b ≠ w.heap.size ∧ b ≠ w.heap.size + 1 + 1 := fun b hb => by
    rcases hb with q | q
    · have := HLO.out.1 b q; omega
    · omega
  have hT3 := set3 (W9.setCell ⟨w.heap.size, 0, none⟩ (.int .i64 (ck + 1))) (w.heap.size + 1 + 1) (.int .i64 (ck + 1)) (.slice (some ⟨ga, 0, none⟩) cp.length k1) (.slice (some ⟨gp, 0, none⟩) os.length k2)
  refine bodyPost_ret (v := .tuple #[.agg #[.int .i64 (ck + 1), .slice (some ⟨ga, 0, none⟩) cp.length k1, .slice (some ⟨gp, 0, none⟩) os.length k2], .bool true]) (by simp [results, Try.results47, go_sem, *]) rfl ?_
  rw [HGY.out]
  refine ⟨ck + 1, _, _, _, _, fun b => S b ∨ (w1.heap.size ≤ b ∧ b < W9.heap.size), rfl, (hOX.set (p := ⟨w.heap.size, 0, none⟩) (fun q => (hnb _ q).1 rfl) _).turn hT3 (fun b hb e => (hnb b hb).2 e), fun b hb => ⟨?_, ?_⟩, ?_, fun y e => ?_⟩
  · rcases hb with q | q
    · have := HLO.out.1 b q; simp; omega
    · simp; omega
  · exact hb.elim Or.inl (fun q => Or.inr (by omega))
  · have hT := (HTF.out.1.set (p := ⟨w.heap.size, 0, none⟩) (Or.inr (Nat.le_refl _)) (.int .i64 (ck + 1))).trans (hT3.wide (fun b e => Or.inr (by have e : b = w.heap.size + 1 + 1 := e; omega)))
    exact ⟨hT.1, hT.2.1, hT.2.2.1, hT.2.2.2.1, fun b hb hn => hT.2.2.2.2 b hb (fun q => q.elim hn (fun r => by omega))⟩
  · cases e; exact ⟨rfl, rfl, rfl⟩

end Go.Proofs.Ytaofolbnommpgaa
