/- Registers: a step is taken. -/
import Derived.Test.YtaofolbnommpgaaRhB
import Derived.Test.YtaofolbnommpgaaRhP
namespace Go.Proofs.Ytaofolbnommpgaa
open Go.RowKit
set_option linter.unusedVariables false
set_option linter.unusedSimpArgs false

theorem goE_same (ck nc x0 : Int) (x1 : Bool) (x2 : ByteArray) (x3 : Int) (s : List (Sh.T .int)) (d : Sh.T shCopy) (x8 x9 : Int) : ∃ y3 s2 e0 e1 e2 y9, goE ck nc x0 x1 x2 x3 s d x8 x9 = mkOp x0 x1 x2 y3 s2 (mkCp e0 e1 e2) x8 y9 := by
  unfold goE
  split
  · exact ⟨_, _, d.1, d.2.1, d.2.2.1, _, rfl⟩
  · split
    · obtain ⟨e, he⟩ : ∃ e, (if x1 = true then mkCp (d.1 + 1) x0 x2 else d : Sh.T shCopy) = e := ⟨_, rfl⟩
      rw [he]
      exact ⟨_, _, e.1, e.2.1, e.2.2.1, _, rfl⟩
    · exact ⟨_, _, d.1, d.2.1, d.2.2.1, _, rfl⟩
/-- What a step on a register of its own leaves. -/
def TkP (A : Option RgD) (W : World) (lo g : Nat) (ck : Int) (S : Nat → Prop) (r : Ending) (w' : World) : Prop :=
  (A = none → r = .returned (.bool false) ∧ Below W.heap.size W w') ∧ ∀ y : RgD, A = some y → r = .returned (.bool (tf (goodR (ck + 1) y.1 y.2))) ∧ ∃ va' vp' S', RgX w' lo g ck va' vp' y.1 y.2 S' ∧ (∀ b, S' b → S b ∨ W.heap.size ≤ b) ∧ TurnS (fun b => S b ∨ b = g) W w'
theorem TkP.back {A : Option RgD} {W W1 : World} {lo g : Nat} {ck : Int} {S : Nat → Prop} {r : Ending} {w' : World} (h : TkP A W1 lo g ck S r w') (hb : Below W.heap.size W W1) : TkP A W lo g ck S r w' := by
  refine ⟨fun q => ⟨(h.1 q).1, below_next hb (h.1 q).2⟩, fun y q => ?_⟩
  obtain ⟨h1, va', vp', S', h2, h3, h4⟩ := h.2 y q
  have := hb.size
  exact ⟨h1, va', vp', S', h2, fun b hb' => (h3 b hb').elim Or.inl (fun e => Or.inr (by omega)), (TurnS.of_below hb).trans h4⟩

theorem begin_t (lo g : Nat) (ck : Int) (va vp : Value) (cp : List (Sh.T shCopy)) (os : List (Sh.T shRegOp)) (S : Nat → Prop) (cl : Int) (wr : Bool) (vl : ByteArray) (oi ni : Int) (W : World) (hv : vl.size ≤ 1073741824) (hg : goodR ck cp os) (hk : ck ≠ 1000) (h : RgX W lo g ck va vp cp os S) :
    Calls Try.prog 103 #[.pointer (some ⟨g, 0, none⟩), .agg #[.bool true, .int .i64 cl, .bool wr, .string vl, .int .i64 oi, .int .i64 ni]] W (TkP (rsB ck cp os true cl wr vl oi ni) W lo g ck S) := by
  refine (beginOp_n lo g ck va vp cp os S cl wr vl oi ni true W hg.2.2.1 hv h).mono ?_
  rintro r w' ⟨h1, h2⟩
  by_cases q : begP os cl wr vl
  · rw [rsB_beg q]
    obtain ⟨h3, h4⟩ := h2 q
    refine ⟨fun e => (by cases e), fun y e => ?_⟩
    cases e
    rw [tf_yes (good_beg hg hk q)]
    exact ⟨h3, h4⟩
  · rw [rsB_bno q]
    exact ⟨fun _ => h1 q, fun y e => by cases e⟩
theorem go_t (lo g : Nat) (ck : Int) (va vp : Value) (cp : List (Sh.T shCopy)) (os : List (Sh.T shRegOp)) (S : Nat → Prop) (cl : Int) (wr : Bool) (vl : ByteArray) (oi ni : Int) (W : World) (hg : goodR ck cp os) (hk : ck ≠ 1000) (h : RgX W lo g ck va vp cp os S) :
    Calls Try.prog 104 #[.pointer (some ⟨g, 0, none⟩), .agg #[.bool false, .int .i64 cl, .bool wr, .string vl, .int .i64 oi, .int .i64 ni]] W (TkP (rsB ck cp os false cl wr vl oi ni) W lo g ck S) := by
  obtain ⟨a1, k1, a2, k2, hva, hvp⟩ := h.vform
  subst hva hvp
  have h12 := hg.2.1
  have h7 := hg.2.2.1
  by_cases hr : (0 ≤ oi ∧ oi ≤ (os.length : Int) - 1) ∧ (0 ≤ ni ∧ ni ≤ (cp.length : Int) - 1)
  case neg =>
    refine (goOn_out g ck a1 cp.length k1 a2 os.length k2 false cl wr vl oi ni W h12.2 h7 h.1 hr).mono ?_
    rintro r w' ⟨rfl, hb⟩
    rw [rsB_gno (fun q => hr ⟨q.1, q.2.1⟩)]
    exact ⟨fun _ => ⟨rfl, hb⟩, fun y e => by cases e⟩
  obtain ⟨k, rfl⟩ : ∃ k : Nat, oi = (k : Int) := ⟨oi.toNat, by omega⟩
  obtain ⟨j, rfl⟩ : ∃ j : Nat, ni = (j : Int) := ⟨ni.toNat, by omega⟩
  have hko : k < os.length := by omega
  have hjc : j < cp.length := by omega
  obtain ⟨A, hA⟩ : ∃ A, cp[j] = A := ⟨_, rfl⟩
  obtain ⟨P, hP⟩ : ∃ P, os[k] = P := ⟨_, rfl⟩
  have hop : opP ck cp.length P := hP ▸ hg.2.2.2.2.1 _ (List.getElem_mem hko)
  have hcq : copQ A := hA ▸ hg.2.2.2.1 _ (List.getElem_mem hjc)
  have hgo := rsB_go (ck := ck) (cp := cp) (os := os) (cl := cl) (wr := wr) (vl := vl) (oi := (k : Int)) (ni := (j : Int))
  have hgn := rsB_gno (ck := ck) (cp := cp) (os := os) (cl := cl) (wr := wr) (vl := vl) (oi := (k : Int)) (ni := (j : Int))
  have hgd := good_go (oi := (k : Int)) (ni := (j : Int)) hg hk
  have hgp : goP cp os (k : Int) (j : Int) ↔ RgO.ph P ≠ 3 ∧ (j : Int) ∉ RgO.sn P := by
    unfold goP
    rw [Int.toNat_natCast, getD_lt hko, hP]
    exact ⟨fun q => q.2.2, fun q => ⟨hr.1, hr.2, q⟩⟩
  rw [Int.toNat_natCast, Int.toNat_natCast, getD_lt hko, getD_lt hjc, hA, hP] at hgo hgd
  obtain ⟨n, i, t, ⟨⟩⟩ := A
  obtain ⟨x0, x1, x2, x3, sn, ⟨b0, b1, b2, ⟨⟩⟩, x8, x9, ⟨⟩⟩ := P
  obtain ⟨ga, ka, gp, kp, v1, B1, hva, hvp, hka, hkp, hSin, hLoc, hback⟩ := reg_loc h.2.1 hjc hko h.2.2.2 (fun b q => (h.2.2.1 b q).1) hA hP
  cases hva
  cases hvp
  obtain ⟨n', i', t', hC⟩ : ∃ n' i' t', goC x3 (mkCp b0 b1 b2) (mkCp n i t) = mkCp n' i' t' := ⟨_, _, _, rfl⟩
  obtain ⟨d0, d1, d2, hB⟩ : ∃ n' i' t', goB x3 (mkCp b0 b1 b2) (mkCp n i t) = mkCp n' i' t' := ⟨_, _, _, rfl⟩
  obtain ⟨y3, sE, e0, e1, e2, y9, hE⟩ := goE_same ck cp.length x0 x1 x2 x3 (insI sn (j : Int)) (mkCp d0 d1 d2) x8 x9
  have hO : goO ck cp.length (mkOp x0 x1 x2 x3 sn (mkCp b0 b1 b2) x8 x9) (mkCp n i t) (j : Int) = mkOp x0 x1 x2 y3 sE (mkCp e0 e1 e2) x8 y9 := by
    have e : goO ck cp.length (mkOp x0 x1 x2 x3 sn (mkCp b0 b1 b2) x8 x9) (mkCp n i t) (j : Int) = goE ck cp.length x0 x1 x2 x3 (insI sn (j : Int)) (goB x3 (mkCp b0 b1 b2) (mkCp n i t)) x8 x9 := rfl
    rw [e, hB, hE]
  have hng : ∀ z, locS ga gp B1 z → z ≠ g := fun z q => (h.2.2.1 z (hSin z q)).2
  have hgl : ¬ locS ga gp B1 g := fun q => hng g q rfl
  refine (goOn_in W W lo g ga gp j k cp.length _ os.length _ (locS ga gp B1) v1 B1 n i t x0 x1 x2 x3 b0 b1 b2 x8 x9 sn ck false cl wr vl hjc hko hka hkp h12.2 h7 hop.2.2.2.1 (by have h6 := hop.2.2.2.2.2.2.1; have h6 : 2 * (sn.length : Int) ≤ cp.length := h6; omega) hop.2.2.2.2.2.2.2.2.2.2 (valOk_sz hcq.2.2) (valOk_sz hop.2.1) (valOk_sz hop.2.2.2.2.1.2.2) hop.2.2.2.2.1.1 hcq.1
    n' i' t' d0 d1 d2 hC hB y3 e0 e1 e2 y9 sE hE (fun e => hgl (Or.inl e)) (fun e => hgl (Or.inr (Or.inl e))) (fun z q => hng z (Or.inr (Or.inr q))) hgl h.1 h.1.2 hLoc).mono ?_
  rintro r w' ⟨h1, h2⟩
  by_cases q : x3 ≠ 3 ∧ (j : Int) ∉ sn
  · have hgo := hgo (hgp.2 q)
    have hgd := hgd (hgp.2 q)
    obtain ⟨rfl, v5, B5, hL⟩ := h2 q
    have e1' : goC (RgO.ph (x0, x1, x2, x3, sn, (b0, b1, b2, ()), x8, x9, ())) (RgO.bs (x0, x1, x2, x3, sn, (b0, b1, b2, ()), x8, x9, ())) (n, i, t, ()) = mkCp n' i' t' := hC
    rw [hgo]
    refine ⟨fun e => (by cases e), fun y e => ?_⟩
    cases e
    refine ⟨?_, _, _, fun b => S b ∨ (W.heap.size ≤ b ∧ b < w'.heap.size), ⟨h.1.turnS hL.2.2.2.2.2.2.2.1 hgl, ?_, fun b hb => ?_, ?_⟩, fun b hb => hb.elim Or.inl (fun e => Or.inr e.1), hL.2.2.2.2.2.2.2.1.wide (fun b hb => Or.inl (hSin b hb))⟩
    · rw [tf_eq hgd]
      show _ = Ending.returned (.bool (tf (copQ (RgO.bs (goO ck cp.length (mkOp x0 x1 x2 x3 sn (mkCp b0 b1 b2) x8 x9) (mkCp n i t) (j : Int))))))
      rw [hO]
      rfl
    · show OwnX w' lo tyRegister _ (ck, cp.set j (goC x3 (mkCp b0 b1 b2) (mkCp n i t)), os.set k (goO ck cp.length (mkOp x0 x1 x2 x3 sn (mkCp b0 b1 b2) x8 x9) (mkCp n i t) (j : Int)), ()) _
      rw [hO, hC]
      exact hback w' v5 B5 n' i' t' x0 x1 x2 y3 sE e0 e1 e2 x8 y9 hL ck
    · rcases hb with hb | hb
      · exact ⟨Nat.lt_of_lt_of_le (h.2.2.1 b hb).1 hL.2.2.2.2.2.2.2.1.size, (h.2.2.1 b hb).2⟩
      · have := h.1.2; exact ⟨hb.2, by omega⟩
    · exact Nat.le_trans h.2.2.2 hL.2.2.2.2.2.2.2.1.size
  · rw [hgn (fun e => q (hgp.1 e))]
    exact ⟨fun _ => h1 q, fun y e => by cases e⟩
end Go.Proofs.Ytaofolbnommpgaa
