/- Fences: impl.GoodFence says yes to a good fence. -/
import Derived.Test.YtcbdlalpnlahcaaFeZ
namespace Go.Proofs.Ytcbdlalpnlahcaa
open Go.RowKit
set_option linter.unusedVariables false
set_option linter.unusedSimpArgs false

theorem inRange_y (n lo hi : Int) (w : World) (h : lo ≤ n ∧ n ≤ hi) : Calls Try.prog 43 #[.int .i64 n, .int .i64 lo, .int .i64 hi] w fun e w' => e = .returned (.bool true) ∧ w' = w := by
  have := inRange_any n lo hi w
  rw [inR_iff.2 h] at this
  exact this
/-- The least that may stand at k. -/
def lsR (ac : Int) (l : List (Sh.T .int)) (k : Nat) : Int := if k = 0 then ac + 1 else atI l (k - 1)
theorem lsR_le {ac ep : Int} {l : List (Sh.T .int)} {k : Nat} (h : runP ac ep l l.length) (hk : k < l.length) : lsR ac l k ≤ atI l k ∧ atI l k ≤ ep := by
  have := h k hk
  refine ⟨?_, this.1.2⟩
  unfold lsR
  split
  · exact this.1.1
  · exact this.2 (by omega)

set_option maxRecDepth 100000 in
set_option maxHeartbeats 4000000 in
theorem isMember_y (a1 : Option Addr) (k1 : Nat) (x0 x1 : Int) (x2 : List (Sh.T .int)) (x3 ep du : Int) (w : World) (hep : 1 ≤ ep ∧ ep ≤ 1000) (hdu : 0 ≤ du ∧ du ≤ ep - 1) (hm : memP ep du (mkMb x0 x1 x2 x3)) (h : Lies w (.list .int) [.slice a1 x2.length k1] x2) :
    Calls Try.prog 45 #[.agg #[.int .i64 x0, .int .i64 x1, .slice a1 x2.length k1, .int .i64 x3], .int .i64 du, .int .i64 ep] w fun r w' => r = .returned (.bool true) ∧ Below w.heap.size w w' := by
  have hm : (0 ≤ x0 ∧ x0 ≤ 99) ∧ (du + 1 ≤ x1 ∧ x1 ≤ ep) ∧ x2.length ≤ 20 ∧ (du ≤ x3 ∧ x3 ≤ ep - 1) ∧ runP x3 x1 x2 x2.length ∧ x3 < x1 := hm
  obtain ⟨hm1, hm2, hm3, hm4, hm5, hm6⟩ := hm
  have HR := Hid.intro hm5
  have HL := Hid.intro h
  clear hm5 h
  obtain ⟨w0, hw0⟩ : ∃ x, x = w.alloc (.cells #[.int .i64 x0, .int .i64 x1, .slice a1 x2.length k1, .int .i64 x3] 37) := ⟨_, rfl⟩
  have HB0 : Hid (Bx w0 w.heap.size [.int .i64 x0, .int .i64 x1, .slice a1 x2.length k1, .int .i64 x3] ∧ Below w.heap.size w w0) := ⟨hw0 ▸ Bx.new w [_, _, _, _] _, hw0 ▸ Go.Joins.below_alloc1 _ _⟩
  have s0 := (HB0.out.1).cell 0 rfl; have s1 := (HB0.out.1).cell 1 rfl; have s2 := (HB0.out.1).cell 2 rfl; have s3 := (HB0.out.1).cell 3 rfl; have sz := (HB0.out.1).2
  have hw1 : IntKind.i64.wrap (du + 1) = du + 1 := w64f (by omega) (by omega)
  have hw2 : IntKind.i64.wrap (x1 - 1) = x1 - 1 := w64f (by omega) (by omega)
  have hw3 : IntKind.i64.wrap (x3 + 1) = x3 + 1 := w64f (by omega) (by omega)
  have hx20 : ¬ (20 : Int) < (x2.length : Int) := by omega
  go_enter Try.func45, Try.ntmps45
  go_upto_region 1 with fail
  rw [← hw0]
  clear hw0
  go_wp2_with (go_at_call 43; refine (inRange_y _ _ _ _ (by omega)).mono ?_; rintro e w' ⟨rfl, hw⟩; have hw := hw.symm; subst hw)
  go_loopw [37, 7] (fun i v wr => ∃ k : Nat, k ≤ x2.length ∧ i = .int .i64 k ∧ v = .int .i64 (lsR x3 x2 k) ∧ wr = w0) (fun i _ _ => x2.length - (intOf i).toNat)
  case atStart => exact ⟨0, Nat.zero_le _, rfl, rfl, rfl⟩
  case round =>
    obtain ⟨k, hk, rfl, rfl, rfl⟩ := hrel
    by_cases hlt : k < x2.length
    · have hlt' : (k : Int) < (x2.length : Int) := by omega
      obtain ⟨gr, og, har, hcr, hgr⟩ := lies_at (HL.out.next HB0.out.2) hlt
      subst har
      have hin := lsR_le HR.out hlt
      have HSU : Hid (lsR x3 x2 (k + 1) = atI x2 k) := Hid.intro (by unfold lsR; rw [if_neg (by omega)]; rfl)
      generalize atI x2 k = y at hcr hin HSU
      generalize lsR x3 x2 k = z at hin ⊢
      go_wp2_with (go_at_call 43; refine (inRange_y _ _ _ _ hin).mono ?_; rintro e w' ⟨rfl, hw⟩; have hw := hw.symm; subst hw)
      go_roundw
      case rel => exact ⟨k + 1, by omega, by go_num, by rw [HSU.out], trivial⟩
      case measure => simp [intOf]; omega
    · go_wp2
      go_ret
      exact ⟨rfl, HB0.out.2⟩

set_option maxRecDepth 100000 in
set_option maxHeartbeats 4000000 in
theorem areEnded_y (a2 : Option Addr) (k2 : Nat) (en : List (Sh.T .int)) (ep : Int) (w : World) (hn : en.length ≤ 200) (hE : endP ep en en.length) (h : Lies w (.list .int) [.slice a2 en.length k2] en) :
    Calls Try.prog 44 #[.slice a2 en.length k2, .int .i64 ep] w fun r w' => r = .returned (.bool true) ∧ w' = w := by
  have HL := Hid.intro h
  have HE := Hid.intro hE
  clear h hE
  have hn2 : ¬ (200 : Int) < (en.length : Int) := by omega
  go_enter Try.func44, Try.ntmps44
  go_wp2
  go_loopw [12] (fun i wr => ∃ k : Nat, k ≤ en.length ∧ i = .int .i64 k ∧ wr = w) (fun i _ => en.length - (intOf i).toNat)
  case atStart => exact ⟨0, Nat.zero_le _, rfl, rfl⟩
  case round =>
    obtain ⟨k, hk, rfl, rfl⟩ := hrel
    by_cases hlt : k < en.length
    · have hlt' : (k : Int) < (en.length : Int) := by omega
      obtain ⟨gr, og, har, hcr, hgr⟩ := lies_at HL.out hlt
      subst har
      have hin := HE.out k hlt
      generalize atI en k = y at hcr hin
      go_wp2_with (go_at_call 43; refine (inRange_y _ _ _ _ hin).mono ?_; rintro e w' ⟨rfl, hw⟩; have hw := hw.symm; subst hw)
      go_roundw
      case rel => exact ⟨k + 1, by omega, by go_num, trivial⟩
      case measure => simp [intOf]; omega
    · go_wp2
      go_ret
      exact ⟨rfl, rfl⟩

/-- The least Id that may stand at k. -/
def lsM (ms : List (Sh.T shMember)) (k : Nat) : Int := if h : 0 < k ∧ k ≤ ms.length then mid (ms[k - 1]'(by omega)) + 1 else 0
theorem lsM_le {ep du : Int} {ms : List (Sh.T shMember)} {k : Nat} (h : memsP ep du ms ms.length) (hk : k < ms.length) : lsM ms k ≤ mid ms[k] ∧ mid ms[k] ≤ 99 := by
  have := h k hk hk
  refine ⟨?_, this.1.1.2⟩
  unfold lsM
  split
  · rename_i q
    have := this.2 q.1
    omega
  · exact this.1.1.1
theorem lsM_succ {ms : List (Sh.T shMember)} {k : Nat} (hk : k < ms.length) : lsM ms (k + 1) = mid ms[k] + 1 := by unfold lsM; rw [dif_pos ⟨by omega, by omega⟩]; rfl

set_option maxRecDepth 100000 in
set_option maxHeartbeats 4000000 in
theorem goodFence_y (cs : List Value) (ep du : Int) (ms : List (Sh.T shMember)) (en : List (Sh.T .int)) (w : World) (hG : goodF ep du ms en) (h : Lies w shFence cs (ep, du, ms, en, ())) :
    Calls Try.prog 16 #[.agg cs.toArray] w fun r w' => r = .returned (.bool true) ∧ Below w.heap.size w w' := by
  obtain ⟨a1, k1, a2, k2, rfl, h1, h2⟩ := lies_Fence h
  have HL : Hid (FeL w a1 k1 a2 k2 ms en) := ⟨h1, h2⟩
  have hep := hG.1
  have hdu := hG.2.1
  have hm8 := hG.2.2.1
  have htt := hG.2.2.2.1
  have hen : (en.length : Int) ≤ 200 := by omega
  have hen2 : ¬ (200 : Int) < (en.length : Int) := by omega
  have HM := Hid.intro hG.2.2.2.2.1
  have HEN := Hid.intro hG.2.2.2.2.2
  clear h h1 h2 hG htt
  obtain ⟨w0, hw0⟩ : ∃ x, x = (w.alloc (.cells #[.int .i64 ep, .int .i64 du, .slice a1 ms.length k1, .slice a2 en.length k2] 29)) := ⟨_, rfl⟩
  have HB0 : Hid (Bx w0 w.heap.size [.int .i64 ep, .int .i64 du, .slice a1 ms.length k1, .slice a2 en.length k2] ∧ Below w.heap.size w w0) := ⟨hw0 ▸ Bx.new w [_, _, _, _] _, hw0 ▸ Go.Joins.below_alloc1 _ _⟩
  have s0 := (HB0.out.1).cell 0 rfl; have s1 := (HB0.out.1).cell 1 rfl; have s2 := (HB0.out.1).cell 2 rfl; have s3 := (HB0.out.1).cell 3 rfl; have sz := (HB0.out.1).2
  have hw1 : IntKind.i64.wrap (ep - 1) = ep - 1 := w64f (by omega) (by omega)
  go_enter Try.func16, Try.ntmps16
  go_upto_region 1 with fail
  rw [← hw0]
  clear hw0
  have HLE2 : Hid (Lies w0 (.list .int) [.slice a2 en.length k2] en) := HL.out.2.next HB0.out.2
  go_wp2_with (first | (go_at_call 43; refine (inRange_y _ _ _ _ (by omega)).mono ?_; rintro e w' ⟨rfl, hw⟩; have hw := hw.symm; subst hw) | (go_at_call 44; refine (areEnded_y a2 k2 en ep _ (by omega) HEN.out HLE2.out).mono ?_; rintro e w' ⟨rfl, hw⟩; have hw := hw.symm; subst hw))
  clear s0 s1 s2 s3 sz HLE2
  go_loopw [35, 3] (fun i v wr => ∃ k : Nat, k ≤ ms.length ∧ i = .int .i64 k ∧ v = .int .i64 (lsM ms k) ∧ Bx wr w.heap.size [.int .i64 ep, .int .i64 du, .slice a1 ms.length k1, .slice a2 en.length k2] ∧ Below w.heap.size w wr) (fun i _ _ => ms.length - (intOf i).toNat)
  case atStart => exact ⟨0, Nat.zero_le _, rfl, by unfold lsM; rw [dif_neg (by omega)], HB0.out.1, HB0.out.2⟩
  case round =>
    obtain ⟨k, hk, rfl, rfl, hbx, hBr⟩ := hrel
    have HB : Hid (Bx wr w.heap.size [.int .i64 ep, .int .i64 du, .slice a1 ms.length k1, .slice a2 en.length k2] ∧ Below w.heap.size w wr) := ⟨hbx, hBr⟩
    clear hbx hBr HB0
    by_cases hlt : k < ms.length
    · have hlt' : (k : Int) < (ms.length : Int) := by omega
      have HLE : Hid (Lies wr (.list shMember) [.slice a1 ms.length k1] ms) := HL.out.1.next HB.out.2
      have hin := lsM_le HM.out hlt
      have HS := Hid.intro (lsM_succ hlt)
      have HME := Hid.intro (HM.out k hlt hlt).1
      obtain ⟨xg, xoff, xgo, xgs, xec, xel, xhec, xle⟩ := Lies.elem (HLE.out) hlt
      subst xgo
      rcases xX : ms[k] with ⟨x0, x1, x2, x3, ⟨⟩⟩
      rw [xX] at xle
      have xH : Hid (ms[k] = (x0, x1, x2, x3, ())) := xX
      clear xX
      obtain ⟨xa1, xk1, xev, xq1⟩ := lies_Member xle
      subst xev
      have xc0 : wr.cell? ⟨xg, xoff + k * 4, none⟩ = some (.int .i64 x0) := xhec 0 (by simp)
      have xc1 : wr.cell? ⟨xg, xoff + k * 4 + 1, none⟩ = some (.int .i64 x1) := xhec 1 (by simp)
      have xc2 : wr.cell? ⟨xg, xoff + k * 4 + 2, none⟩ = some (.slice xa1 x2.length xk1) := xhec 2 (by simp)
      have xc3 : wr.cell? ⟨xg, xoff + k * 4 + 3, none⟩ = some (.int .i64 x3) := xhec 3 (by simp)
      clear xhec xel xle
      rw [xH.out] at hin HS HME
      have hin : lsM ms k ≤ x0 ∧ x0 ≤ 99 := hin
      have HS : Hid (lsM ms (k + 1) = x0 + 1) := HS
      have HME : Hid (memP ep du (mkMb x0 x1 x2 x3)) := HME
      obtain ⟨y0, hy0⟩ : ∃ y : Int, y = x0 := ⟨_, rfl⟩
      subst hy0
      have hin : lsM ms k ≤ y0 ∧ y0 ≤ (99 : Int) := hin
      have hy0 : (0 : Int) ≤ y0 := HME.out.1.1
      generalize lsM ms k = z at hin ⊢
      have hw0 : IntKind.i64.wrap (y0 + 1) = y0 + 1 := w64f (by omega) (by omega)
      have HQ : Hid (Lies wr (.list .int) [.slice xa1 x2.length xk1] x2) := xq1
      clear xq1
      have HB2 : Hid (Below wr.heap.size wr (wr.alloc (.cells #[.int .i64 y0, .int .i64 x1, .slice xa1 x2.length xk1, .int .i64 x3] 37)) ∧ Bx (wr.alloc (.cells #[.int .i64 y0, .int .i64 x1, .slice xa1 x2.length xk1, .int .i64 x3] 37)) wr.heap.size [.int .i64 y0, .int .i64 x1, .slice xa1 x2.length xk1, .int .i64 x3]) := ⟨Go.Joins.below_alloc1 _ _, Bx.new wr [_, _, _, _] _⟩
      have s0 := (HB.out.1).cell 0 rfl; have s1 := (HB.out.1).cell 1 rfl; have s2 := (HB.out.1).cell 2 rfl; have s3 := (HB.out.1).cell 3 rfl; have sz := (HB.out.1).2
      go_wp2_with (first | (go_at_call 43; refine (inRange_y _ _ _ _ hin).mono ?_; rintro e w' ⟨rfl, hw⟩; have hw := hw.symm; subst hw) | (go_at_call 45; refine (isMember_y xa1 xk1 y0 x1 x2 x3 ep du _ hep hdu HME.out (HQ.out.next HB2.out.1)).mono ?_; rintro e W3 ⟨rfl, hb3⟩; have HB3 : Hid (Bx W3 w.heap.size [.int .i64 ep, .int .i64 du, .slice (some ⟨xg, xoff, none⟩) ms.length k1, .slice a2 en.length k2] ∧ Below w.heap.size w W3 ∧ Bx W3 wr.heap.size [.int .i64 y0, .int .i64 x1, .slice xa1 x2.length xk1, .int .i64 x3]) := ⟨(HB.out.1.next HB2.out.1).next hb3, below_next (below_next HB.out.2 HB2.out.1) hb3, HB2.out.2.next hb3⟩; clear hb3; have m0 := HB3.out.2.2.cell 0 rfl; have mz := HB3.out.2.2.2))
      go_roundw
      case rel => exact ⟨k + 1, by omega, by go_num, by rw [HS.out], HB3.out.1, HB3.out.2.1⟩
      case measure => simp [intOf]; omega
    · go_wp2
      go_ret
      exact ⟨rfl, HB.out.2⟩

end Go.Proofs.Ytcbdlalpnlahcaa
