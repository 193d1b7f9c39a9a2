/- The contract of the specification's l2Causes. -/
import Derived.Test.YtjophhiccbkpjaaEvS
import Derived.Test.YtjophhiccbkpjaaLam
import Derived.BigQuiet
import Derived.Deep.QuietTactic
namespace Go.Proofs.Ytjophhiccbkpjaa
open Go.RowKit
set_option linter.unusedVariables false

def ownTo (P : Nat → Int) (i j : Nat) : Nat := lastB (fun t => P t == P i) j
def sntTo (K M : Nat → Int) (i j : Nat) : Nat := if K i = 3 then lastB (fun t => K t == 2 && M t == M i) j else 0
theorem ownTo_step (P : Nat → Int) (i j : Nat) : ownTo P i (j + 1) = if (P j == P i) = true then j + 1 else ownTo P i j := rfl
theorem sntTo_yes {K M : Nat → Int} {i j : Nat} (h3 : K i = 3) (h2 : (K j == 2) = true) (hm : (M j == M i) = true) : sntTo K M i (j + 1) = j + 1 := by
  simp only [sntTo, if_pos h3, lastB, h2, hm]; rfl
theorem sntTo_no {K M : Nat → Int} {i j : Nat} (h : ¬ (K i = 3 ∧ (K j == 2) = true ∧ (M j == M i) = true)) : sntTo K M i (j + 1) = sntTo K M i j := by
  by_cases h3 : K i = 3
  · have hc : (K j == 2 && M j == M i) = false := by
      cases h2 : (K j == 2)
      · rfl
      · cases hm : (M j == M i)
        · rfl
        · exact absurd ⟨h3, h2, hm⟩ h
    simp [sntTo, h3, lastB, hc]
  · simp [sntTo, h3]

theorem sntTo_yes3 {K M : Nat → Int} {i j : Nat} (h3 : (K i == 3) = true) (h2 : (K j == 2) = true) (hm : (M j == M i) = true) : sntTo K M i (j + 1) = j + 1 := sntTo_yes (by simpa using h3) h2 hm
theorem sntTo_no3 {K M : Nat → Int} {i j : Nat} (h3 : (K i == 3) = false) : sntTo K M i (j + 1) = sntTo K M i j := sntTo_no (fun q => by simp [q.1] at h3)
theorem sntTo_no2 {K M : Nat → Int} {i j : Nat} (h2 : (K j == 2) = false) : sntTo K M i (j + 1) = sntTo K M i j := sntTo_no (fun q => by rw [q.2.1] at h2; cases h2)
theorem sntTo_nom {K M : Nat → Int} {i j : Nat} (hm : (M j == M i) = false) : sntTo K M i (j + 1) = sntTo K M i j := sntTo_no (fun q => by rw [q.2.2] at hm; cases hm)
theorem below_drewN {B : Nat} {a w : World} (h : Below B a w) (n : Nat) : Below B a (w.drewN n) := ⟨h.os, h.tape, h.output, h.size, h.block⟩

set_option maxHeartbeats 4000000 in
theorem causes_any (a : Option Addr) (n cap i : Nat) (K P M : Nat → Int) (w : World) (hn : n ≤ 1048576) (hcap : n ≤ cap) (hin : i < n) (hs : Sl w a n 3 (evF K P M)) :
    Calls Try.prog 53 #[.slice a n cap, .int .i64 i] w fun r w' => r = .returned (.tuple #[.int .i64 ((own P i : Int) - 1), .int .i64 ((snt K M i : Int) - 1)]) ∧ Below w.heap.size w w' := by
  rcases hs with h | ⟨b, off, rfl, hbs, hE⟩
  · omega
  have HE : Hid (Elems w b off n 3 (evF K P M)) := hE
  clear hE
  have hic : (i : Int) ≤ (cap : Int) := by omega
  have hin' : (i : Int) < (n : Int) := by omega
  go_enter Try.func53, Try.ntmps53
  go_wp2
  go_loopw [14, 6, 7] (fun t o s wr => ∃ j : Nat, j ≤ i ∧ t = .int .i64 j ∧ o = .int .i64 ((ownTo P i j : Int) - 1) ∧ s = .int .i64 ((sntTo K M i j : Int) - 1) ∧ Below w.heap.size w wr) (fun t _ _ _ => i - (intOf t).toNat)
  case atStart => exact ⟨0, Nat.zero_le _, rfl, by simp [ownTo, lastB], by simp [sntTo, lastB], Below.refl _ _⟩
  case round =>
    obtain ⟨j, hj, rfl, rfl, rfl, hBr⟩ := hrel
    by_cases hlt : j < i
    · have hlt' : (j : Int) < (i : Int) := by omega
      have hEr := HE.out.below hBr hbs
      obtain ⟨c0, c1, c2⟩ := ev_cells hEr (show j < n by omega)
      obtain ⟨d0, d1, d2⟩ := ev_cells hEr hin
      have hbr : b < wr.heap.size := Nat.lt_of_lt_of_le hbs hBr.size
      have hz : w.heap.size ≤ wr.heap.size := hBr.size
      have HB : Hid (Below w.heap.size w wr) := hBr
      have HT : Hid (ownTo P i (j + 1) = if (P j == P i) = true then j + 1 else ownTo P i j) := rfl
      clear hBr hEr
      generalize ownTo P i j = o at *
      obtain ⟨s, hsd⟩ : ∃ s, s = sntTo K M i j := ⟨_, rfl⟩
      have HSd : Hid (s = sntTo K M i j) := hsd
      rw [← hsd]
      clear hsd
      cases hp : (P j == P i) <;> cases h3 : (K i == 3) <;> cases h2 : (K j == 2) <;> cases hm : (M j == M i)
      all_goals
        go_upto_region 6 with fail
        go_quiet (fail)
        go_wp2_with fail
        go_quiet (fail)
        go_wp2
        refine ⟨⟨j + 1, by omega, by go_num, ?_, ?_, below_drewN (HB.out.alloc hz _) _⟩, by simp [intOf]; omega⟩
        · rw [HT.out, hp]; simp
        · first
            | (rw [sntTo_yes3 h3 h2 hm]; simp; done)
            | (rw [sntTo_no3 h3, ← HSd.out]; done)
            | (rw [sntTo_no2 h2, ← HSd.out]; done)
            | (rw [sntTo_nom hm, ← HSd.out]; done)
    · have hji : j = i := by omega
      subst hji
      have HB : Hid (Below w.heap.size w wr) := hBr
      clear hBr
      have HO : Hid (own P j = ownTo P j j ∧ snt K M j = sntTo K M j j) := ⟨rfl, rfl⟩
      generalize ownTo P j j = o at *
      generalize sntTo K M j j = s at *
      go_wp2
      exact bodyPost_ret (v := .tuple #[.int .i64 ((o : Int) - 1), .int .i64 ((s : Int) - 1)]) (by simp [results, Try.results53, go_sem]) rfl ⟨by rw [HO.out.1, HO.out.2], HB.out⟩
end Go.Proofs.Ytjophhiccbkpjaa
