/- Fences: what a step answers; spec.l12Advance. -/
import Derived.Test.YtcbdlalpnlahcaaFeO
namespace Go.Proofs.Ytcbdlalpnlahcaa
open Go.RowKit
set_option linter.unusedVariables false
set_option linter.unusedSimpArgs false

def mkFe (ep du : Int) (ms : List (Sh.T shMember)) (en : List (Sh.T .int)) : Sh.T shFence := (ep, du, ms, en, ())
/-- A fence's four cells. -/
def Fe4 (cs : List Value) : Prop := ∃ (e d : Int) (a : Option Addr) (n c : Nat) (a2 : Option Addr) (n2 c2 : Nat), cs = [.int .i64 e, .int .i64 d, .slice a n c, .slice a2 n2 c2]
/-- What a step on a fence of its own leaves: only what the fence owns has changed. -/
def StX (lo : Nat) (S : Nat → Prop) (A : Option (Sh.T shFence)) (w : World) (r : Ending) (w' : World) : Prop :=
  TurnS S w w' ∧ ∃ cs : List Value, r = .returned (.tuple #[.agg cs.toArray, .bool A.isSome]) ∧ Fe4 cs ∧ ∀ y, A = some y → OwnX w' lo tyFence cs y (fun k => S k ∨ Btw w.heap.size w'.heap.size k)
theorem StX.no {lo : Nat} {S : Nat → Prop} {A : Option (Sh.T shFence)} {w W : World} {cs : List Value} (h : A = none) (ht : TurnS S w W) (hl : Fe4 cs := by exact ⟨_, _, _, _, _, _, _, _, rfl⟩) : StX lo S A w (.returned (.tuple #[.agg cs.toArray, .bool false])) W := by
  subst h
  exact ⟨ht, cs, rfl, hl, fun y e => by cases e⟩
theorem StX.yes {lo : Nat} {S : Nat → Prop} {A : Option (Sh.T shFence)} {w W : World} {cs : List Value} {y : Sh.T shFence} (h : A = some y) (ht : TurnS S w W) (hO : OwnX W lo tyFence cs y (fun k => S k ∨ Btw w.heap.size W.heap.size k)) (hl : Fe4 cs := by exact ⟨_, _, _, _, _, _, _, _, rfl⟩) : StX lo S A w (.returned (.tuple #[.agg cs.toArray, .bool true])) W := by
  subst h
  exact ⟨ht, cs, rfl, hl, fun z e => by cases e; exact hO⟩
/-- All of the first k have acked and are in the epoch. -/
def ackP (ep : Int) (ms : List (Sh.T shMember)) (k : Nat) : Prop := ∀ i (h : i < ms.length), i < k → mac ms[i] = ep - 1 ∧ mep ms[i] = ep
noncomputable def advF (ep du : Int) (ms : List (Sh.T shMember)) (en : List (Sh.T .int)) : Option (Sh.T shFence) := if tf (ep ≠ 1000 ∧ ¬ (du = ep - 1 ∧ 1 < ep) ∧ ackP ep ms ms.length) then some (mkFe (ep + 1) (ep - 1) ms en) else none
theorem adv_no {ep du : Int} {ms : List (Sh.T shMember)} {en : List (Sh.T .int)} (h : ¬ (ep ≠ 1000 ∧ ¬ (du = ep - 1 ∧ 1 < ep) ∧ ackP ep ms ms.length)) : advF ep du ms en = none := by unfold advF; rw [tf_no h]; rfl
theorem adv_yes {ep du : Int} {ms : List (Sh.T shMember)} {en : List (Sh.T .int)} (h : ep ≠ 1000 ∧ ¬ (du = ep - 1 ∧ 1 < ep) ∧ ackP ep ms ms.length) : advF ep du ms en = some (mkFe (ep + 1) (ep - 1) ms en) := by unfold advF; rw [tf_yes h]; rfl
theorem TurnS.new {S : Nat → Prop} {w W W' : World} {z : Nat} (h : TurnS S w W) (ht : TurnS (fun k => k = z) W W') (hz : w.heap.size ≤ z) : TurnS S w W' :=
  ⟨ht.1.trans h.1, ht.2.1.trans h.2.1, ht.2.2.1.trans h.2.2.1, Nat.le_trans h.2.2.2.1 ht.2.2.2.1, fun k hk hs => (ht.2.2.2.2 k (Nat.lt_of_lt_of_le hk h.2.2.2.1) (by omega)).trans (h.2.2.2.2 k hk hs)⟩

set_option maxRecDepth 100000 in
set_option maxHeartbeats 4000000 in
theorem l12Advance_n (lo : Nat) (S : Nat → Prop) (cs : List Value) (ep du : Int) (ms : List (Sh.T shMember)) (en : List (Sh.T .int)) (w : World) (hG : goodF ep du ms en) (hO : OwnX w lo tyFence cs (ep, du, ms, en, ()) S) (hS : ∀ k, S k → k < w.heap.size) :
    Calls Try.prog 63 #[.agg cs.toArray] w (StX lo S (advF ep du ms en) w) := by
  obtain ⟨v1, S1, v2, S2, rfl, o1, o2, e1, e2, d12⟩ := ownx_Fence hO
  obtain ⟨a1, k1, hv1⟩ := o1.vform
  have hv1 : v1 = .slice a1 (List.length (α := Sh.T shMember) ms) k1 := hv1
  subst hv1
  obtain ⟨a2, k2, hv2⟩ := o2.vform
  have hv2 : v2 = .slice a2 (List.length (α := Sh.T .int) en) k2 := hv2
  subst hv2
  have HO : Hid (OwnX w lo (.list tyMember 37) [.slice a1 ms.length k1] ms S1 ∧ OwnX w lo (.list .int 3) [.slice a2 en.length k2] en S2 ∧ (∀ k, S1 k → S k) ∧ (∀ k, S2 k → S k) ∧ (∀ k, S1 k → ¬ S2 k) ∧ (∀ k, S k → k < w.heap.size)) := ⟨o1, o2, e1, e2, d12, hS⟩
  have HLM : Hid (Lies w (.list shMember) [.slice a1 ms.length k1] ms) := o1.lies
  have hep := hG.1
  have hdu := hG.2.1
  have hm8 := hG.2.2.1
  obtain ⟨hep1, hep2⟩ := hep
  obtain ⟨hdu1, hdu2⟩ := hdu
  have hme : ∀ i (h : i < ms.length), (1 ≤ mep ms[i] ∧ mep ms[i] ≤ 1000) ∧ (0 ≤ mac ms[i] ∧ mac ms[i] ≤ 1000) := fun i h => by have q := (hG.2.2.2.2.1 i h h).1; have q1 := q.2.1; have q2 := q.2.2.2.1; omega
  have HME := Hid.intro hme
  clear hO hS o1 o2 e1 e2 d12 hG hme
  obtain ⟨w0, hw0⟩ : ∃ x, x = (w.alloc (.cells #[.int .i64 ep, .int .i64 du, .slice a1 ms.length k1, .slice a2 en.length k2] 29)).alloc (.cells #[.int .i64 0, .int .i64 0, .slice none 0 0, .slice none 0 0] 29) := ⟨_, rfl⟩
  have HB0 : Hid (Bx w0 w.heap.size [.int .i64 ep, .int .i64 du, .slice a1 ms.length k1, .slice a2 en.length k2] ∧ Bx w0 (w.heap.size + 1) [.int .i64 0, .int .i64 0, .slice none 0 0, .slice none 0 0] ∧ Below w.heap.size w w0) := ⟨hw0 ▸ (Bx.new w [_, _, _, _] _).alloc _, hw0 ▸ Bx.newAt (by simp), hw0 ▸ ((Below.refl _ _).alloc (Nat.le_refl _) _).alloc (by simp) _⟩
  have s0 := (HB0.out.1).cell 0 rfl; have s1 := (HB0.out.1).cell 1 rfl; have s2 := (HB0.out.1).cell 2 rfl; have s3 := (HB0.out.1).cell 3 rfl; have sz := (HB0.out.1).2
  have t0 := (HB0.out.2.1).cell 0 rfl; have t1 := (HB0.out.2.1).cell 1 rfl; have t2 := (HB0.out.2.1).cell 2 rfl; have t3 := (HB0.out.2.1).cell 3 rfl; have tz := (HB0.out.2.1).2
  have tf0 := HB0.out.2.1.frz 0 (by simp)
  have tf1 := HB0.out.2.1.frz 1 (by simp)
  have tf2 := HB0.out.2.1.frz 2 (by simp)
  have tf3 := HB0.out.2.1.frz 3 (by simp)
  have hepw : IntKind.i64.wrap (ep - 1) = ep - 1 := w64f (by omega) (by omega)
  have hepw2 : IntKind.i64.wrap (ep + 1) = ep + 1 := w64f (by omega) (by omega)
  go_enter Try.func63, Try.ntmps63
  go_upto_region 1 with fail
  rw [← hw0]
  clear hw0
  have HSE : Hid (∀ W : World, Below w.heap.size w W → ∀ u0 u1 u2 u3, TurnS S w ((((W.setCell ⟨w.heap.size + 1, 0, none⟩ u0).setCell ⟨w.heap.size + 1, 1, none⟩ u1).setCell ⟨w.heap.size + 1, 2, none⟩ u2).setCell ⟨w.heap.size + 1, 3, none⟩ u3)) := Hid.intro (fun W hb u0 u1 u2 u3 => (TurnS.of_below hb).new (set4 W (w.heap.size + 1) u0 u1 u2 u3) (by omega))
  by_cases c1 : ep = 1000
  · have HN : Hid (advF ep du ms en = none) := Hid.intro (adv_no (fun q => q.1 c1))
    subst c1
    go_wp2
    exact bodyPost_ret (v := .tuple #[.agg #[.int .i64 1000, .int .i64 du, .slice a1 ms.length k1, .slice a2 en.length k2], .bool false]) (by simp [results, Try.results63, go_sem, *]) rfl (StX.no (cs := [.int .i64 1000, .int .i64 du, .slice a1 ms.length k1, .slice a2 en.length k2]) HN.out (HSE.out _ HB0.out.2.2 _ _ _ _))
  have c1b : (ep == 1000) = false := beq_false_of_ne c1
  by_cases c2 : du = ep - 1 ∧ 1 < ep
  · have HN : Hid (advF ep du ms en = none) := Hid.intro (adv_no (fun q => q.2.1 c2))
    obtain ⟨c2a, c2c⟩ := c2
    subst c2a
    go_wp2
    exact bodyPost_ret (v := .tuple #[.agg #[.int .i64 ep, .int .i64 (ep - 1), .slice a1 ms.length k1, .slice a2 en.length k2], .bool false]) (by simp [results, Try.results63, go_sem, *]) rfl (StX.no (cs := [.int .i64 ep, .int .i64 (ep - 1), .slice a1 ms.length k1, .slice a2 en.length k2]) HN.out (HSE.out _ HB0.out.2.2 _ _ _ _))
  have HC2 : Hid (¬ (du = ep - 1 ∧ 1 < ep)) := c2
  have hcase : (¬ du = ep - 1) ∨ (du = ep - 1 ∧ ¬ 1 < ep) := by omega
  clear c2
  have HC1 : Hid (ep ≠ 1000) := c1
  rcases hcase with c | ⟨c, c'⟩
  · have cb : (du == ep - 1) = false := beq_false_of_ne c
    go_wp2
    clear s0 s1 s2 s3 sz t0 t1 t2 t3 tz tf0 tf1 tf2 tf3 c cb
    go_loopw [26] (fun i wr => ∃ k : Nat, k ≤ ms.length ∧ i = .int .i64 k ∧ ackP ep ms k ∧ Bx wr w.heap.size [.int .i64 ep, .int .i64 du, .slice a1 ms.length k1, .slice a2 en.length k2] ∧ Bx wr (w.heap.size + 1) [.int .i64 0, .int .i64 0, .slice none 0 0, .slice none 0 0] ∧ Below w.heap.size w wr) (fun i _ => ms.length - (intOf i).toNat)
    case atStart => exact ⟨0, Nat.zero_le _, rfl, fun i _ hj => absurd hj (by omega), HB0.out⟩
    case round =>
      obtain ⟨k, hk, rfl, hA, hbx, hbt, hBr⟩ := hrel
      clear HB0
      have HA := Hid.intro hA
      have HB : Hid (Bx wr w.heap.size [.int .i64 ep, .int .i64 du, .slice a1 ms.length k1, .slice a2 en.length k2] ∧ Bx wr (w.heap.size + 1) [.int .i64 0, .int .i64 0, .slice none 0 0, .slice none 0 0] ∧ Below w.heap.size w wr) := ⟨hbx, hbt, hBr⟩
      clear hA hbx hbt hBr
      by_cases hlt : k < ms.length
      · have hlt' : (k : Int) < (ms.length : Int) := by omega
        have HLE : Hid (Lies wr (.list shMember) [.slice a1 ms.length k1] ms) := HLM.out.next HB.out.2.2
        obtain ⟨xg, xoff, xgo, xgs, xec, xel, xhec, xle⟩ := Lies.elem (HLE.out) hlt
        subst xgo
        rcases xX : ms[k] with ⟨x0, x1, x2, x3, ⟨⟩⟩
        rw [xX] at xle
        have xH : Hid (ms[k] = (x0, x1, x2, x3, ())) := xX
        clear xX
        obtain ⟨xa1, xk1, xev, xq1⟩ := lies_Member xle
        subst xev
        have xc0 : wr.cell? ⟨xg, xoff + k * 4, none⟩ = some (.int .i64 x0) := xhec 0 (by simp)
        have xc1 : wr.cell? ⟨xg, xoff + k * 4 + 1, none⟩ = some (.int .i64 x1) := xhec 1 (by simp)
        have xc2 : wr.cell? ⟨xg, xoff + k * 4 + 2, none⟩ = some (.slice xa1 x2.length xk1) := xhec 2 (by simp)
        have xc3 : wr.cell? ⟨xg, xoff + k * 4 + 3, none⟩ = some (.int .i64 x3) := xhec 3 (by simp)
        clear xhec xel xle
        have HK : Hid (mac ms[k] = x3 ∧ mep ms[k] = x1) := Hid.intro (by rw [xH.out]; exact ⟨rfl, rfl⟩)
        obtain ⟨y1, hy1⟩ : ∃ y : Int, y = x1 := ⟨_, rfl⟩
        obtain ⟨y3, hy3⟩ : ∃ y : Int, y = x3 := ⟨_, rfl⟩
        subst hy1 hy3
        have HX : Hid (Bx (wr.alloc (.cells #[.int .i64 x0, .int .i64 y1, .slice xa1 x2.length xk1, .int .i64 y3] 37)) w.heap.size [.int .i64 ep, .int .i64 du, .slice (some ⟨xg, xoff, none⟩) ms.length k1, .slice a2 en.length k2] ∧ Bx (wr.alloc (.cells #[.int .i64 x0, .int .i64 y1, .slice xa1 x2.length xk1, .int .i64 y3] 37)) (w.heap.size + 1) [.int .i64 0, .int .i64 0, .slice none 0 0, .slice none 0 0] ∧ Below w.heap.size w (wr.alloc (.cells #[.int .i64 x0, .int .i64 y1, .slice xa1 x2.length xk1, .int .i64 y3] 37))) := ⟨HB.out.1.alloc _, HB.out.2.1.alloc _, HB.out.2.2.alloc HB.out.2.2.size _⟩
        clear xq1
        have s0 := (HB.out.1).cell 0 rfl; have s1 := (HB.out.1).cell 1 rfl; have s2 := (HB.out.1).cell 2 rfl; have s3 := (HB.out.1).cell 3 rfl; have sz := (HB.out.1).2
        have t0 := (HB.out.2.1).cell 0 rfl; have t1 := (HB.out.2.1).cell 1 rfl; have t2 := (HB.out.2.1).cell 2 rfl; have t3 := (HB.out.2.1).cell 3 rfl; have tz := (HB.out.2.1).2
        have tf0 := HB.out.2.1.frz 0 (by simp)
        have tf1 := HB.out.2.1.frz 1 (by simp)
        have tf2 := HB.out.2.1.frz 2 (by simp)
        have tf3 := HB.out.2.1.frz 3 (by simp)
        by_cases g1 : y3 = ep - 1
        · by_cases g2 : y1 = ep
          · have HA2 : Hid (ackP ep ms (k + 1)) := Hid.intro (fun i h hi => by
              by_cases e : i = k
              · subst e; exact ⟨HK.out.1.trans g1, HK.out.2.trans g2⟩
              · exact HA.out i h (by omega))
            have g2 := g2.symm
            subst g1
            subst g2
            go_wp2
            go_roundw
            case rel => exact ⟨k + 1, by omega, by go_num, HA2.out, HX.out⟩
            case measure => simp [intOf]; omega
          · have HN : Hid (advF ep du ms en = none) := Hid.intro (adv_no (fun q => g2 (HK.out.2.symm.trans (q.2.2 k hlt hlt).2)))
            have g2b : (y1 == ep) = false := beq_false_of_ne g2
            subst g1
            go_wp2
            exact bodyPost_ret (v := .tuple #[.agg #[.int .i64 ep, .int .i64 du, .slice (some ⟨xg, xoff, none⟩) ms.length k1, .slice a2 en.length k2], .bool false]) (by simp [results, Try.results63, go_sem, *]) rfl (StX.no (cs := [.int .i64 ep, .int .i64 du, .slice (some ⟨xg, xoff, none⟩) ms.length k1, .slice a2 en.length k2]) HN.out ((HSE.out _ HB.out.2.2 _ _ _ _).next (Go.Joins.below_alloc1 _ _)))
        · have HN : Hid (advF ep du ms en = none) := Hid.intro (adv_no (fun q => g1 (HK.out.1.symm.trans (q.2.2 k hlt hlt).1)))
          have g1b : (y3 == ep - 1) = false := beq_false_of_ne g1
          go_wp2
          exact bodyPost_ret (v := .tuple #[.agg #[.int .i64 ep, .int .i64 du, .slice (some ⟨xg, xoff, none⟩) ms.length k1, .slice a2 en.length k2], .bool false]) (by simp [results, Try.results63, go_sem, *]) rfl (StX.no (cs := [.int .i64 ep, .int .i64 du, .slice (some ⟨xg, xoff, none⟩) ms.length k1, .slice a2 en.length k2]) HN.out ((HSE.out _ HB.out.2.2 _ _ _ _).next (Go.Joins.below_alloc1 _ _)))
      · have hkn : k = ms.length := by omega
        subst hkn
        have HN : Hid (advF ep du ms en = some (mkFe (ep + 1) (ep - 1) ms en)) := Hid.intro (adv_yes ⟨HC1.out, HC2.out, HA.out⟩)
        have s0 := (HB.out.1).cell 0 rfl; have s1 := (HB.out.1).cell 1 rfl; have s2 := (HB.out.1).cell 2 rfl; have s3 := (HB.out.1).cell 3 rfl; have sz := (HB.out.1).2
        have sf0 := HB.out.1.frz 0 (by simp)
        have sf1 := HB.out.1.frz 1 (by simp)
        have t0 := (HB.out.2.1).cell 0 rfl; have t1 := (HB.out.2.1).cell 1 rfl; have t2 := (HB.out.2.1).cell 2 rfl; have t3 := (HB.out.2.1).cell 3 rfl; have tz := (HB.out.2.1).2
        have tf0 := HB.out.2.1.frz 0 (by simp)
        have tf1 := HB.out.2.1.frz 1 (by simp)
        have tf2 := HB.out.2.1.frz 2 (by simp)
        have tf3 := HB.out.2.1.frz 3 (by simp)
        go_wp2
        have HT : Hid (TurnS S w (((((((wr.setCell ⟨w.heap.size, 1, none⟩ (.int .i64 (ep - 1))).setCell ⟨w.heap.size, 0, none⟩ (.int .i64 (ep + 1))).setCell ⟨w.heap.size + 1, 0, none⟩ (.int .i64 (ep + 1))).setCell ⟨w.heap.size + 1, 1, none⟩ (.int .i64 (ep - 1))).setCell ⟨w.heap.size + 1, 2, none⟩ (.slice a1 ms.length k1)).setCell ⟨w.heap.size + 1, 3, none⟩ (.slice a2 en.length k2))) ∧ Below w.heap.size w (((((((wr.setCell ⟨w.heap.size, 1, none⟩ (.int .i64 (ep - 1))).setCell ⟨w.heap.size, 0, none⟩ (.int .i64 (ep + 1))).setCell ⟨w.heap.size + 1, 0, none⟩ (.int .i64 (ep + 1))).setCell ⟨w.heap.size + 1, 1, none⟩ (.int .i64 (ep - 1))).setCell ⟨w.heap.size + 1, 2, none⟩ (.slice a1 ms.length k1)).setCell ⟨w.heap.size + 1, 3, none⟩ (.slice a2 en.length k2)))) := Hid.intro (by
          have b1 : Below w.heap.size w ((wr.setCell ⟨w.heap.size, 1, none⟩ (.int .i64 (ep - 1))).setCell ⟨w.heap.size, 0, none⟩ (.int .i64 (ep + 1))) := (HB.out.2.2.setCell (p := ⟨w.heap.size, 1, none⟩) (Nat.le_refl _) _).setCell (p := ⟨w.heap.size, 0, none⟩) (Nat.le_refl _) _
          exact ⟨HSE.out _ b1 _ _ _ _, b1.trans ((set4 _ (w.heap.size + 1) _ _ _ _).below (fun k e => by have e : k = w.heap.size + 1 := e; omega) b1.size)⟩)
        exact bodyPost_ret (v := .tuple #[.agg #[.int .i64 (ep + 1), .int .i64 (ep - 1), .slice a1 ms.length k1, .slice a2 en.length k2], .bool true]) (by simp [results, Try.results63, go_sem, *]) rfl (StX.yes (cs := [.int .i64 (ep + 1), .int .i64 (ep - 1), .slice a1 ms.length k1, .slice a2 en.length k2]) HN.out HT.out.1 (mkownx_Fence (x0 := ep + 1) (x1 := ep - 1) (HO.out.1.next HT.out.2) (HO.out.2.1.next HT.out.2) (fun k e => Or.inl (HO.out.2.2.1 k e)) (fun k e => Or.inl (HO.out.2.2.2.1 k e)) HO.out.2.2.2.2.1))
  · have HDU : Hid (du = ep - 1) := c
    have cb : (du == ep - 1) = true := by rw [c]; exact beq_self_eq_true _
    go_wp2
    clear s0 s1 s2 s3 sz t0 t1 t2 t3 tz tf0 tf1 tf2 tf3 c c' cb
    go_loopw [26] (fun i wr => ∃ k : Nat, k ≤ ms.length ∧ i = .int .i64 k ∧ ackP ep ms k ∧ Bx wr w.heap.size [.int .i64 ep, .int .i64 du, .slice a1 ms.length k1, .slice a2 en.length k2] ∧ Bx wr (w.heap.size + 1) [.int .i64 0, .int .i64 0, .slice none 0 0, .slice none 0 0] ∧ Below w.heap.size w wr) (fun i _ => ms.length - (intOf i).toNat)
    case atStart => exact ⟨0, Nat.zero_le _, rfl, fun i _ hj => absurd hj (by omega), HB0.out⟩
    case round =>
      obtain ⟨k, hk, rfl, hA, hbx, hbt, hBr⟩ := hrel
      clear HB0
      have HA := Hid.intro hA
      have HB : Hid (Bx wr w.heap.size [.int .i64 ep, .int .i64 du, .slice a1 ms.length k1, .slice a2 en.length k2] ∧ Bx wr (w.heap.size + 1) [.int .i64 0, .int .i64 0, .slice none 0 0, .slice none 0 0] ∧ Below w.heap.size w wr) := ⟨hbx, hbt, hBr⟩
      clear hA hbx hbt hBr
      by_cases hlt : k < ms.length
      · have hlt' : (k : Int) < (ms.length : Int) := by omega
        have HLE : Hid (Lies wr (.list shMember) [.slice a1 ms.length k1] ms) := HLM.out.next HB.out.2.2
        obtain ⟨xg, xoff, xgo, xgs, xec, xel, xhec, xle⟩ := Lies.elem (HLE.out) hlt
        subst xgo
        rcases xX : ms[k] with ⟨x0, x1, x2, x3, ⟨⟩⟩
        rw [xX] at xle
        have xH : Hid (ms[k] = (x0, x1, x2, x3, ())) := xX
        clear xX
        obtain ⟨xa1, xk1, xev, xq1⟩ := lies_Member xle
        subst xev
        have xc0 : wr.cell? ⟨xg, xoff + k * 4, none⟩ = some (.int .i64 x0) := xhec 0 (by simp)
        have xc1 : wr.cell? ⟨xg, xoff + k * 4 + 1, none⟩ = some (.int .i64 x1) := xhec 1 (by simp)
        have xc2 : wr.cell? ⟨xg, xoff + k * 4 + 2, none⟩ = some (.slice xa1 x2.length xk1) := xhec 2 (by simp)
        have xc3 : wr.cell? ⟨xg, xoff + k * 4 + 3, none⟩ = some (.int .i64 x3) := xhec 3 (by simp)
        clear xhec xel xle
        have HK : Hid (mac ms[k] = x3 ∧ mep ms[k] = x1) := Hid.intro (by rw [xH.out]; exact ⟨rfl, rfl⟩)
        obtain ⟨y1, hy1⟩ : ∃ y : Int, y = x1 := ⟨_, rfl⟩
        obtain ⟨y3, hy3⟩ : ∃ y : Int, y = x3 := ⟨_, rfl⟩
        subst hy1 hy3
        have HX : Hid (Bx (wr.alloc (.cells #[.int .i64 x0, .int .i64 y1, .slice xa1 x2.length xk1, .int .i64 y3] 37)) w.heap.size [.int .i64 ep, .int .i64 du, .slice (some ⟨xg, xoff, none⟩) ms.length k1, .slice a2 en.length k2] ∧ Bx (wr.alloc (.cells #[.int .i64 x0, .int .i64 y1, .slice xa1 x2.length xk1, .int .i64 y3] 37)) (w.heap.size + 1) [.int .i64 0, .int .i64 0, .slice none 0 0, .slice none 0 0] ∧ Below w.heap.size w (wr.alloc (.cells #[.int .i64 x0, .int .i64 y1, .slice xa1 x2.length xk1, .int .i64 y3] 37))) := ⟨HB.out.1.alloc _, HB.out.2.1.alloc _, HB.out.2.2.alloc HB.out.2.2.size _⟩
        clear xq1
        have s0 := (HB.out.1).cell 0 rfl; have s1 := (HB.out.1).cell 1 rfl; have s2 := (HB.out.1).cell 2 rfl; have s3 := (HB.out.1).cell 3 rfl; have sz := (HB.out.1).2
        have t0 := (HB.out.2.1).cell 0 rfl; have t1 := (HB.out.2.1).cell 1 rfl; have t2 := (HB.out.2.1).cell 2 rfl; have t3 := (HB.out.2.1).cell 3 rfl; have tz := (HB.out.2.1).2
        have tf0 := HB.out.2.1.frz 0 (by simp)
        have tf1 := HB.out.2.1.frz 1 (by simp)
        have tf2 := HB.out.2.1.frz 2 (by simp)
        have tf3 := HB.out.2.1.frz 3 (by simp)
        by_cases g1 : y3 = ep - 1
        · by_cases g2 : y1 = ep
          · have HA2 : Hid (ackP ep ms (k + 1)) := Hid.intro (fun i h hi => by
              by_cases e : i = k
              · subst e; exact ⟨HK.out.1.trans g1, HK.out.2.trans g2⟩
              · exact HA.out i h (by omega))
            have g2 := g2.symm
            subst g1
            subst g2
            go_wp2
            go_roundw
            case rel => exact ⟨k + 1, by omega, by go_num, HA2.out, HX.out⟩
            case measure => simp [intOf]; omega
          · have HN : Hid (advF ep du ms en = none) := Hid.intro (adv_no (fun q => g2 (HK.out.2.symm.trans (q.2.2 k hlt hlt).2)))
            have g2b : (y1 == ep) = false := beq_false_of_ne g2
            subst g1
            go_wp2
            exact bodyPost_ret (v := .tuple #[.agg #[.int .i64 ep, .int .i64 du, .slice (some ⟨xg, xoff, none⟩) ms.length k1, .slice a2 en.length k2], .bool false]) (by simp [results, Try.results63, go_sem, *]) rfl (StX.no (cs := [.int .i64 ep, .int .i64 du, .slice (some ⟨xg, xoff, none⟩) ms.length k1, .slice a2 en.length k2]) (by first | exact HN.out | (have h := HN.out; rw [HDU.out] at h; exact h)) ((HSE.out _ HB.out.2.2 _ _ _ _).next (Go.Joins.below_alloc1 _ _)))
        · have HN : Hid (advF ep du ms en = none) := Hid.intro (adv_no (fun q => g1 (HK.out.1.symm.trans (q.2.2 k hlt hlt).1)))
          have g1b : (y3 == ep - 1) = false := beq_false_of_ne g1
          go_wp2
          exact bodyPost_ret (v := .tuple #[.agg #[.int .i64 ep, .int .i64 du, .slice (some ⟨xg, xoff, none⟩) ms.length k1, .slice a2 en.length k2], .bool false]) (by simp [results, Try.results63, go_sem, *]) rfl (StX.no (cs := [.int .i64 ep, .int .i64 du, .slice (some ⟨xg, xoff, none⟩) ms.length k1, .slice a2 en.length k2]) (by first | exact HN.out | (have h := HN.out; rw [HDU.out] at h; exact h)) ((HSE.out _ HB.out.2.2 _ _ _ _).next (Go.Joins.below_alloc1 _ _)))
      · have hkn : k = ms.length := by omega
        subst hkn
        have HN : Hid (advF ep du ms en = some (mkFe (ep + 1) (ep - 1) ms en)) := Hid.intro (adv_yes ⟨HC1.out, HC2.out, HA.out⟩)
        have s0 := (HB.out.1).cell 0 rfl; have s1 := (HB.out.1).cell 1 rfl; have s2 := (HB.out.1).cell 2 rfl; have s3 := (HB.out.1).cell 3 rfl; have sz := (HB.out.1).2
        have sf0 := HB.out.1.frz 0 (by simp)
        have sf1 := HB.out.1.frz 1 (by simp)
        have t0 := (HB.out.2.1).cell 0 rfl; have t1 := (HB.out.2.1).cell 1 rfl; have t2 := (HB.out.2.1).cell 2 rfl; have t3 := (HB.out.2.1).cell 3 rfl; have tz := (HB.out.2.1).2
        have tf0 := HB.out.2.1.frz 0 (by simp)
        have tf1 := HB.out.2.1.frz 1 (by simp)
        have tf2 := HB.out.2.1.frz 2 (by simp)
        have tf3 := HB.out.2.1.frz 3 (by simp)
        go_wp2
        have HT : Hid (TurnS S w (((((((wr.setCell ⟨w.heap.size, 1, none⟩ (.int .i64 (ep - 1))).setCell ⟨w.heap.size, 0, none⟩ (.int .i64 (ep + 1))).setCell ⟨w.heap.size + 1, 0, none⟩ (.int .i64 (ep + 1))).setCell ⟨w.heap.size + 1, 1, none⟩ (.int .i64 (ep - 1))).setCell ⟨w.heap.size + 1, 2, none⟩ (.slice a1 ms.length k1)).setCell ⟨w.heap.size + 1, 3, none⟩ (.slice a2 en.length k2))) ∧ Below w.heap.size w (((((((wr.setCell ⟨w.heap.size, 1, none⟩ (.int .i64 (ep - 1))).setCell ⟨w.heap.size, 0, none⟩ (.int .i64 (ep + 1))).setCell ⟨w.heap.size + 1, 0, none⟩ (.int .i64 (ep + 1))).setCell ⟨w.heap.size + 1, 1, none⟩ (.int .i64 (ep - 1))).setCell ⟨w.heap.size + 1, 2, none⟩ (.slice a1 ms.length k1)).setCell ⟨w.heap.size + 1, 3, none⟩ (.slice a2 en.length k2)))) := Hid.intro (by
          have b1 : Below w.heap.size w ((wr.setCell ⟨w.heap.size, 1, none⟩ (.int .i64 (ep - 1))).setCell ⟨w.heap.size, 0, none⟩ (.int .i64 (ep + 1))) := (HB.out.2.2.setCell (p := ⟨w.heap.size, 1, none⟩) (Nat.le_refl _) _).setCell (p := ⟨w.heap.size, 0, none⟩) (Nat.le_refl _) _
          exact ⟨HSE.out _ b1 _ _ _ _, b1.trans ((set4 _ (w.heap.size + 1) _ _ _ _).below (fun k e => by have e : k = w.heap.size + 1 := e; omega) b1.size)⟩)
        exact bodyPost_ret (v := .tuple #[.agg #[.int .i64 (ep + 1), .int .i64 (ep - 1), .slice a1 ms.length k1, .slice a2 en.length k2], .bool true]) (by simp [results, Try.results63, go_sem, *]) rfl (StX.yes (cs := [.int .i64 (ep + 1), .int .i64 (ep - 1), .slice a1 ms.length k1, .slice a2 en.length k2]) HN.out HT.out.1 (mkownx_Fence (x0 := ep + 1) (x1 := ep - 1) (HO.out.1.next HT.out.2) (HO.out.2.1.next HT.out.2) (fun k e => Or.inl (HO.out.2.2.1 k e)) (fun k e => Or.inl (HO.out.2.2.2.1 k e)) HO.out.2.2.2.2.1))

end Go.Proofs.Ytcbdlalpnlahcaa
