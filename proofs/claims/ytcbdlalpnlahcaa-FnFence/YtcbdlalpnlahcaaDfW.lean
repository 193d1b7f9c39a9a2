/- Fences: the draw of a play, the law's own sameInts, what a play keeps. -/
import Derived.Test.YtcbdlalpnlahcaaDfV
import Derived.Test.YtcbdlalpnlahcaaFpL
import Derived.Test.YtcbdlalpnlahcaaFlI
namespace Go.Proofs.Ytcbdlalpnlahcaa
open Go.RowKit
set_option linter.unusedVariables false
set_option linter.unusedSimpArgs false

theorem drew_belowF {w w0 W : World} {g : Nat} {a : Option Addr} {n cap : Nat} {X : Nat → Int} {t : Nat} (h0 : Below w.heap.size w w0) (h : Drew g a n cap X t w0 W) (hg : w.heap.size ≤ g) : Below w.heap.size w W :=
  ⟨h.2.1.trans h0.os, h.2.2.1.trans h0.tape, h.2.2.2.1.trans h0.output, Nat.le_trans h0.size h.2.2.2.2.1, fun j hj => (h.2.2.2.2.2 j (Nat.lt_of_lt_of_le hj h0.size) (by omega)).trans (h0.block j hj)⟩
/-- How many members, and steps, that were drawn. -/
def DpfP (w : World) (r : Ending) (w' : World) : Prop := ∃ (m : Int) (l : List (Sh.T shFenceStep)) (a2 : Option Addr) (k2 : Nat), l.length ≤ 121 ∧ r = .returned (.tuple #[.int .i64 m, .slice a2 l.length k2]) ∧ Lies w' (.list shFenceStep) [.slice a2 l.length k2] l ∧ Below w.heap.size w w'

set_option maxRecDepth 100000 in
set_option maxHeartbeats 4000000 in
theorem drawPlayFence_any (a : Option Addr) (n cap : Nat) (X : Nat → Int) (w : World) (hn : n ≤ 9223372036854775807) (hs : Sl w a n 1 (byF X)) (hX : ∀ i, i < n → 0 ≤ X i ∧ X i ≤ 255) :
    Calls Try.prog 11 #[.slice a n cap] w (DpfP w) := by
  obtain ⟨w0, hw0⟩ : ∃ x, x = w.alloc (.cells #[.slice a n cap, .int .i64 0, .int .u64 0] 68) := ⟨_, rfl⟩
  have HC : Hid (Cur w0 w.heap.size a n cap X 0 ∧ Below w.heap.size w w0) := ⟨hw0 ▸ Cur.new _ hs hn hX, hw0 ▸ Go.Joins.below_alloc1 _ _⟩
  clear hs hX
  go_enter Try.func11, Try.ntmps11
  go_wp2_with fail
  rw [← hw0]
  clear hw0
  refine (pick_any _ _ _ _ _ _ _ _ (by omega) (by omega) HC.out.1).mono ?_
  rintro _ w1 ⟨x1, hx1, rfl, hd⟩
  have H1 : Hid (Drew w.heap.size a n cap X 2 w0 w1) := hd
  clear hd
  go_wp2_with fail
  refine (fenceSteps_any (1 + x1) _ _ _ _ _ _ _ (by omega) (by omega) H1.out.1).mono ?_
  rintro _ w3 ⟨l, v, hl, rfl, hd⟩
  obtain ⟨a2, c2, e1⟩ := hd.1.vform
  have e1 : v = .slice a2 (List.length (α := Sh.T shFenceStep) l) c2 := e1
  subst e1
  have HP : Hid (DpfP w (.returned (.tuple #[.int .i64 (1 + x1), .slice a2 l.length c2])) w3) := Hid.intro ⟨1 + x1, l, a2, c2, hl, rfl, OwnX.lies hd.1, drew_belowF HC.out.2 (H1.out.trans hd.2) (Nat.le_refl _)⟩
  clear hd H1 hl
  go_wp2
  exact bodyPost_ret (v := .tuple #[.int .i64 (1 + x1), .slice a2 l.length c2]) (by simp [results, Try.results11, go_sem, *]) rfl HP.out

set_option maxHeartbeats 1000000 in
theorem sameInts_same (a a' : Option Addr) (n cap cap' : Nat) (X : Nat → Int) (w : World) (hn : n ≤ 1048576) (hs : Sl w a n 1 (intF X)) (hs' : Sl w a' n 1 (intF X)) :
    Calls Try.prog 14 #[.slice a n cap, .slice a' n cap'] w fun r w' => r = .returned (.bool true) ∧ Below w.heap.size w w' := by
  go_enter Try.func14, Try.ntmps14
  go_wp2
  go_loopw [13] (fun i wr => ∃ k : Nat, k ≤ n ∧ i = .int .i64 k ∧ Below w.heap.size w wr) (fun i _ => n - (intOf i).toNat)
  case atStart => exact ⟨0, Nat.zero_le _, rfl, Below.refl _ _⟩
  case round =>
    obtain ⟨k, hk, rfl, hBr⟩ := hrel
    by_cases hlt : k < n
    · rcases hs.below hBr (Nat.le_refl _) with h | ⟨b, off, rfl, hbs, hE⟩
      · omega
      rcases hs'.below hBr (Nat.le_refl _) with h | ⟨b', off', rfl, hbs', hE'⟩
      · omega
      have hc := int_cell hE hlt
      have hc' := int_cell hE' hlt
      have hlt' : (k : Int) < (n : Int) := by omega
      have HB : Hid (Below w.heap.size w wr) := hBr
      clear hs hs' hE hE' hBr
      go_upto_region 6 with fail
      go_quiet (fail)
      go_wp2
      go_roundw
      case rel => exact ⟨k + 1, by omega, by go_num, below_dN HB.out _⟩
      case measure => simp [intOf]; omega
    · have hkn : k = n := by omega
      subst hkn
      clear hs hs'
      go_wp2
      go_ret
      exact ⟨rfl, hBr⟩
theorem sameI (a a' : Option Addr) (cap cap' : Nat) (D : List (Sh.T .int)) (w : World) (hn : D.length ≤ 1048576) (h : Lies w (.list .int) [.slice a D.length cap] D) (h' : Lies w (.list .int) [.slice a' D.length cap'] D) :
    Calls Try.prog 14 #[.slice a D.length cap, .slice a' D.length cap'] w fun r w' => r = .returned (.bool true) ∧ Below w.heap.size w w' := sameInts_same a a' D.length cap cap' (atI D) w hn (lies_sl h) (lies_sl h')

/-- What is durable is an epoch that was, or none. -/
theorem plD_bd : ∀ (l : List (Sh.T shFenceStep)) {x : Sh.T shFence}, goodT x → ∀ j, j < l.length → 0 ≤ atI (plD x l) j ∧ atI (plD x l) j ≤ 1000
  | [], _, _, j, hj => by simp at hj
  | s :: t, x, h, 0, _ => by
    have h1 : goodF (nxF x s).1 (nxF x s).2.1 (nxF x s).2.2.1 (nxF x s).2.2.2.1 := nx_good h
    have h2 : atI (plD x (s :: t)) 0 = (nxF x s).2.1 := rfl
    rw [h2]
    exact ⟨h1.2.1.1, Int.le_trans h1.2.1.2 (by have := h1.1.2; omega)⟩
  | s :: t, x, h, j + 1, hj => plD_bd t (nx_good h) j (by simpa using hj)
theorem sz_fsteps (l : List (Sh.T shFenceStep)) (h : l.length ≤ 121) : szD (.list shFenceStep) l ≤ 1073741824 := by
  have e : szD (.list shFenceStep) l = l.length + (l.map (szD shFenceStep)).sum := rfl
  have e2 : ∀ q : List (Sh.T shFenceStep), (q.map (szD shFenceStep)).sum = 0 := by
    intro q
    induction q with
    | nil => rfl
    | cons y q ih => rw [List.map_cons, List.sum_cons, ih]; rfl
  have := e2 l
  omega
section
variable {m : Int} {l : List (Sh.T shFenceStep)} {EP DU : Int} {MS : List (Sh.T shMember)} {EN D : List (Sh.T .int)} {z : Bool}
theorem fph_len (h : FpH m l EP DU MS EN D z) : D.length ≤ 120 := by
  obtain ⟨h1, h2, h3, h4, h5, h6⟩ := h
  rw [← h5]
  by_cases c : fpOk m l
  · rw [(fp_yes c).1]
    have h2 := fp_len (s := fp0 m) (l := l) (Nat.le_refl l.length)
    rw [List.take_length] at h2
    have := c.2; omega
  · rw [(fp_no c).1]; exact Nat.zero_le _
theorem fph_no (h : FpH m l EP DU MS EN D false) : D = [] := by
  obtain ⟨h1, h2, h3, h4, h5, h6⟩ := h
  rw [← h5]
  by_cases c : fpOk m l
  · rw [tf_yes c] at h6; cases h6
  · rw [(fp_no c).1]
theorem fph_bd (h : FpH m l EP DU MS EN D true) : ∀ j, j < D.length → 0 ≤ atI D j ∧ atI D j ≤ 1000 := by
  obtain ⟨h1, h2, h3, h4, h5, h6⟩ := h
  have c := tf_iff.1 h6
  rw [← h5, (fp_yes c).1, fp_all]
  intro j hj
  have hj : j < (plD (fp0 m) l).length := hj
  rw [plD_len] at hj
  exact plD_bd l (fp0_good c.1).1 j hj
theorem fph_good (h : FpH m l EP DU MS EN D true) : goodF EP DU MS EN ∧ ∀ j, j + 1 < D.length → atI D j ≤ atI D (j + 1) ∧ atI D (j + 1) ≤ atI D j + 1 := by
  obtain ⟨h1, h2, h3, h4, h5, h6⟩ := h
  have c := tf_iff.1 h6
  have g0 := fp0_good c.1
  rw [← h1, ← h2, ← h3, ← h4, ← h5, (fp_yes c).1]
  have k1 := fp_good (s := fp0 m) (l := l) g0.1 (Nat.le_refl l.length)
  rw [List.take_length] at k1
  refine ⟨k1, ?_⟩
  rw [fp_all]
  intro j hj
  have hj : j + 1 < (plD (fp0 m) l).length := hj
  rw [plD_len] at hj
  exact plD_rises l (fp0 m) g0.2.1 j hj
end
end Go.Proofs.Ytcbdlalpnlahcaa
