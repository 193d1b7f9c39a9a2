/- Fences: both sides of PlayFence as its law speaks of them. -/
import Derived.Test.YtcbdlalpnlahcaaFpI
import Derived.Test.YtcbdlalpnlahcaaFpS
import Derived.Test.YtcbdlalpnlahcaaShC
namespace Go.Proofs.Ytcbdlalpnlahcaa
open Go.RowKit
set_option linter.unusedVariables false
set_option linter.unusedSimpArgs false

theorem cnt_intsF {l : List (Sh.T .int)} (h : szD (.list .int) l ≤ 1073741824) : cntD (.list .int) l ≤ 100000000000 := by
  have h2 := cnt_le (.list .int) l ⟨by decide, trivial⟩
  have h3 : Sh.c (.list .int) = 1 := rfl
  omega
theorem cnt_fsteps {l : List (Sh.T shFenceStep)} (h : szD (.list shFenceStep) l ≤ 1073741824) : cntD (.list shFenceStep) l ≤ 100000000000 := by
  have h2 := cnt_le (.list shFenceStep) l ⟨by decide, trivial, trivial, trivial, trivial⟩
  have h3 : Sh.c (.list shFenceStep) = 1 := rfl
  omega
theorem len_fsteps {l : List (Sh.T shFenceStep)} (h : szD (.list shFenceStep) l ≤ 1073741824) : l.length ≤ 1073741824 := by
  have e : szD (.list shFenceStep) l = l.length + (l.map (szD shFenceStep)).sum := rfl
  omega
theorem sz_fpA (m : Int) (l : List (Sh.T shFenceStep)) : szD shFence (fpA m l).1 ≤ 1073741824 ∧ szD (.list .int) (fpA m l).2 ≤ 1073741824 := by
  by_cases h : fpOk m l
  · rw [(fp_yes h).1]
    have h1 := fp_good (s := fp0 m) (l := l) (fp0_good h.1).1 (Nat.le_refl l.length)
    have h2 := fp_len (s := fp0 m) (l := l) (Nat.le_refl l.length)
    rw [List.take_length] at h1 h2
    refine ⟨Nat.le_trans (good_sz h1) (by decide), ?_⟩
    have e : szD (.list .int) (fpF (fp0 m) l).2 = (fpF (fp0 m) l).2.length + ((fpF (fp0 m) l).2.map (szD .int)).sum := rfl
    have e2 := sz_ints0 (fpF (fp0 m) l).2
    have := h.2
    omega
  · rw [(fp_no h).1]
    exact ⟨Nat.zero_le _, Nat.zero_le _⟩
/-- These are the parts of what a play answers. -/
def FpH (m : Int) (l : List (Sh.T shFenceStep)) (EP DU : Int) (MS : List (Sh.T shMember)) (EN D : List (Sh.T .int)) (z : Bool) : Prop :=
  (fpA m l).1.1 = EP ∧ (fpA m l).1.2.1 = DU ∧ (fpA m l).1.2.2.1 = MS ∧ (fpA m l).1.2.2.2.1 = EN ∧ (fpA m l).2 = D ∧ tf (fpOk m l) = z
theorem fph_sz {m : Int} {l : List (Sh.T shFenceStep)} {EP DU : Int} {MS : List (Sh.T shMember)} {EN D : List (Sh.T .int)} {z : Bool} (h : FpH m l EP DU MS EN D z) : szD shFence (EP, DU, MS, EN, ()) ≤ 1073741824 ∧ szD (.list .int) D ≤ 1073741824 := by
  obtain ⟨h1, h2, h3, h4, h5, h6⟩ := h
  rw [← h1, ← h2, ← h3, ← h4, ← h5]; exact sz_fpA m l
theorem fph_ans {m : Int} {l : List (Sh.T shFenceStep)} {EP DU : Int} {MS : List (Sh.T shMember)} {EN D : List (Sh.T .int)} {z : Bool} {w w' : World} {r : Ending} (h : FpH m l EP DU MS EN D z) (hp : FpR m l w r w') : PyP shFence .int (EP, DU, MS, EN, ()) D z w r w' := by
  obtain ⟨h1, h2, h3, h4, h5, h6⟩ := h
  rw [← h1, ← h2, ← h3, ← h4, ← h5, ← h6]; exact hp
theorem playFence_l (m : Int) (a2 : Option Addr) (k2 : Nat) (l : List (Sh.T shFenceStep)) (w : World) (EP DU : Int) (MS : List (Sh.T shMember)) (EN D : List (Sh.T .int)) (z : Bool) (hA : FpH m l EP DU MS EN D z) (hn : szD (.list shFenceStep) l ≤ 1073741824) (h2 : Lies w (.list shFenceStep) [.slice a2 l.length k2] l) : Calls Try.prog 12 #[.int .i64 m, .slice a2 l.length k2] w (PyP shFence .int (EP, DU, MS, EN, ()) D z w) :=
  (playFence_n m a2 k2 l w (len_fsteps hn) h2).mono (fun r w' hp => fph_ans hA hp)
theorem specPlayFence_l (m : Int) (a2 : Option Addr) (k2 : Nat) (l : List (Sh.T shFenceStep)) (w : World) (EP DU : Int) (MS : List (Sh.T shMember)) (EN D : List (Sh.T .int)) (z : Bool) (hA : FpH m l EP DU MS EN D z) (hn : szD (.list shFenceStep) l ≤ 1073741824) (h2 : Lies w (.list shFenceStep) [.slice a2 l.length k2] l) : Calls Try.prog 13 #[.int .i64 m, .slice a2 l.length k2] w (PyP shFence .int (EP, DU, MS, EN, ()) D z w) :=
  (specPlayFence_n m a2 k2 l w (len_fsteps hn) h2).mono (fun r w' hp => fph_ans hA hp)
end Go.Proofs.Ytcbdlalpnlahcaa
