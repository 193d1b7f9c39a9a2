/- Leases: both sides of PlayLeases as its law speaks of them. -/
import Derived.Test.YtidalpgkljafdaaLpS
namespace Go.Proofs.Ytidalpgkljafdaa
open Go.RowKit
set_option linter.unusedVariables false
set_option linter.unusedSimpArgs false

theorem cnt_lsteps {l : List (Sh.T shLeaseStep)} (h : szD (.list shLeaseStep) l ≤ 1073741824) : cntD (.list shLeaseStep) l ≤ 100000000000 := by
  have h2 := cnt_le (.list shLeaseStep) l ⟨by decide, trivial, trivial, trivial, trivial⟩
  have h3 : Sh.c (.list shLeaseStep) = 1 := rfl
  omega
theorem len_lsteps {l : List (Sh.T shLeaseStep)} (h : szD (.list shLeaseStep) l ≤ 1073741824) : l.length ≤ 1073741824 := by
  have e : szD (.list shLeaseStep) l = l.length + (l.map (szD shLeaseStep)).sum := rfl
  omega
theorem sz_lpA (m sk : Int) (l : List (Sh.T shLeaseStep)) : szD shLeases (lpA m sk l).1 ≤ 1073741824 ∧ szD (.list .int) (lpA m sk l).2 ≤ 1073741824 := by
  by_cases h : lpOk m sk l
  · rw [(lp_yes h).1]
    have h1 := lp_good (s := lp0 m sk) (l := l) (good_lp0 h.1) (Nat.le_refl l.length)
    have h2 := lp_len (s := lp0 m sk) (l := l) (Nat.le_refl l.length)
    rw [List.take_length] at h1 h2
    exact ⟨Nat.le_trans (good_szL h1) (by decide), by rw [sz_int_list, h2]; have := h.2; omega⟩
  · rw [(lp_no h).1]
    exact ⟨Nat.zero_le _, Nat.zero_le _⟩
/-- These are the parts of what a play answers. -/
def LpH (m sk : Int) (l : List (Sh.T shLeaseStep)) (SK NW : Int) (CL : List (Sh.T .int)) (HO UN : Int) (KN D : List (Sh.T .int)) (z : Bool) : Prop :=
  (lpA m sk l).1.1 = SK ∧ (lpA m sk l).1.2.1 = NW ∧ (lpA m sk l).1.2.2.1 = CL ∧ (lpA m sk l).1.2.2.2.1 = HO ∧ (lpA m sk l).1.2.2.2.2.1 = UN ∧ (lpA m sk l).1.2.2.2.2.2.1 = KN ∧ (lpA m sk l).2 = D ∧ tf (lpOk m sk l) = z
theorem lph_sz {m sk : Int} {l : List (Sh.T shLeaseStep)} {SK NW : Int} {CL : List (Sh.T .int)} {HO UN : Int} {KN D : List (Sh.T .int)} {z : Bool} (h : LpH m sk l SK NW CL HO UN KN D z) : szD shLeases (SK, NW, CL, HO, UN, KN, ()) ≤ 1073741824 ∧ szD (.list .int) D ≤ 1073741824 := by
  obtain ⟨h1, h2, h3, h4, h5, h6, h7, h8⟩ := h
  rw [← h1, ← h2, ← h3, ← h4, ← h5, ← h6, ← h7]; exact sz_lpA m sk l
theorem lph_ans {m sk : Int} {l : List (Sh.T shLeaseStep)} {SK NW : Int} {CL : List (Sh.T .int)} {HO UN : Int} {KN D : List (Sh.T .int)} {z : Bool} {w w' : World} {r : Ending} (h : LpH m sk l SK NW CL HO UN KN D z) (hp : LpR m sk l w r w') : PyP shLeases .int (SK, NW, CL, HO, UN, KN, ()) D z w r w' := by
  obtain ⟨h1, h2, h3, h4, h5, h6, h7, h8⟩ := h
  rw [← h1, ← h2, ← h3, ← h4, ← h5, ← h6, ← h7, ← h8]; exact hp
theorem playLeases_l (m sk : Int) (a2 : Option Addr) (k2 : Nat) (l : List (Sh.T shLeaseStep)) (w : World) (SK NW : Int) (CL : List (Sh.T .int)) (HO UN : Int) (KN D : List (Sh.T .int)) (z : Bool) (hA : LpH m sk l SK NW CL HO UN KN D z) (hn : szD (.list shLeaseStep) l ≤ 1073741824) (h2 : Lies w (.list shLeaseStep) [.slice a2 l.length k2] l) :
    Calls Try.prog 11 #[.int .i64 m, .int .i64 sk, .slice a2 l.length k2] w (PyP shLeases .int (SK, NW, CL, HO, UN, KN, ()) D z w) :=
  (playLeases_n m sk a2 k2 l w (len_lsteps hn) h2).mono (fun r w' hp => lph_ans hA hp)
theorem specPlayLeases_l (m sk : Int) (a2 : Option Addr) (k2 : Nat) (l : List (Sh.T shLeaseStep)) (w : World) (SK NW : Int) (CL : List (Sh.T .int)) (HO UN : Int) (KN D : List (Sh.T .int)) (z : Bool) (hA : LpH m sk l SK NW CL HO UN KN D z) (hn : szD (.list shLeaseStep) l ≤ 1073741824) (h2 : Lies w (.list shLeaseStep) [.slice a2 l.length k2] l) :
    Calls Try.prog 12 #[.int .i64 m, .int .i64 sk, .slice a2 l.length k2] w (PyP shLeases .int (SK, NW, CL, HO, UN, KN, ()) D z w) :=
  (specPlayLeases_n m sk a2 k2 l w (len_lsteps hn) h2).mono (fun r w' hp => lph_ans hA hp)
end Go.Proofs.Ytidalpgkljafdaa
