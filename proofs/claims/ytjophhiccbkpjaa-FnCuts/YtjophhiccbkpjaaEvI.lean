/- The contract of GoodEvents. -/
import Derived.Test.YtjophhiccbkpjaaEvM
namespace Go.Proofs.Ytjophhiccbkpjaa
open Go.RowKit Go.Maps
set_option linter.unusedVariables false

theorem mv_stand {K P M : Nat → Int} (k : Nat) : mvF (stand K M k) (K k) (M k) = stand K M (k + 1) := rfl
theorem ev_ok {K P M : Nat → Int} {k : Nat} : evOk K P M k = (inR (P k) 0 5 && mvOk (K k) (M k) (stand K M k (M k))) := rfl

set_option maxHeartbeats 2000000 in
theorem goodEvents_any (a : Option Addr) (n cap : Nat) (K P M : Nat → Int) (w : World) (hn : n ≤ 1048576) (hM : ∀ i, i < n → -9223372036854775808 ≤ M i ∧ M i ≤ 9223372036854775807) (hs : Sl w a n 3 (evF K P M)) :
    Calls Try.prog 36 #[.slice a n cap] w fun r w' => r = .returned (.bool (goodE K P M n)) ∧ Below w.heap.size w w' := by
  by_cases h60 : n ≤ 60
  case neg =>
    have h60' : (60 : Int) < (n : Int) := by omega
    have HN : Hid (goodE K P M n = false) := by show goodE K P M n = false; simp [goodE, h60]
    clear hs h60 hM
    go_enter Try.func36, Try.ntmps36
    go_wp2
    go_ret
    exact ⟨ret_bool HN.out.symm, Below.refl _ _⟩
  case pos =>
  have h60' : ¬ (60 : Int) < (n : Int) := by omega
  have hmm := @run_makeMap Try.prog
  have HM : Hid (∀ i, i < n → -9223372036854775808 ≤ M i ∧ M i ≤ 9223372036854775807) := hM
  have HS : Hid (Sl w a n 3 (evF K P M)) := hs
  clear hs hM
  go_enter Try.func36, Try.ntmps36
  go_wp2
  go_loopw [12] (fun i wr => ∃ k : Nat, k ≤ n ∧ i = .int .i64 k ∧ IMap wr w.heap.size k (stand K M k) ∧ (∀ i, i < k → evOk K P M i = true) ∧ Below w.heap.size w wr) (fun i _ => n - (intOf i).toNat)
  case atStart => exact ⟨0, Nat.zero_le _, rfl, IMap.made w, fun i hi => absurd hi (by omega), (Below.refl _ _).alloc (Nat.le_refl _) _⟩
  case round =>
    obtain ⟨k, hk, rfl, hI, hall, hBr⟩ := hrel
    clear hmm
    by_cases hlt : k < n
    · rcases HS.out.below hBr (Nat.le_refl _) with h | ⟨b, off, rfl, hbs, hE⟩
      · omega
      have hlt' : (k : Int) < (n : Int) := by omega
      obtain ⟨c0, c1, c2⟩ := ev_cells hE hlt
      have HH : Hid (IMap wr w.heap.size k (stand K M k) ∧ (∀ i, i < k → evOk K P M i = true) ∧ Below w.heap.size w wr) := ⟨hI, hall, hBr⟩
      clear hI hall hBr hE
      cases hp : inR (P k) 0 5
      · have HN : Hid (goodE K P M n = false) := good_bad hlt (by rw [ev_ok, hp]; rfl)
        go_wp2_with (go_at_call 54; refine (inRange_any _ _ _ _).mono ?_; rintro e w' ⟨rfl, rfl⟩)
        have hb := HH.out.2.2
        have hz := hb.size
        go_ret
        exact ⟨ret_bool HN.out.symm, (by repeat (first | refine Below.setCell ?_ (by (try simp) <;> omega) _ | refine Below.alloc ?_ (by (try simp) <;> omega) _ | refine Below.drew ?_ | assumption | exact Below.refl _ _ | refine Below.trans ?_ (Below.mono (by assumption) (by (try simp) <;> omega))))⟩
      · have HE : Hid (evOk K P M k = mvOk (K k) (M k) (stand K M k (M k))) := by show evOk K P M k = _; rw [ev_ok, hp]; rfl
        go_wp2_with (go_at_call 54; refine (inRange_any _ _ _ _).mono ?_; rintro e w' ⟨rfl, rfl⟩)
        have hba : Below wr.heap.size wr (wr.alloc (.cells #[.int .i64 (K k), .int .i64 (P k), .int .i64 (M k)] 49)) := Go.Joins.below_alloc1 _ _
        refine (moveMsg_any w.heap.size k (stand K M k) _ _ _ _ (by omega) (HM.out k hlt) (HH.out.1.below hba HH.out.1.lt)).mono ?_
        rintro r w2 ⟨rfl, him, hg⟩
        have hb2 : Below w.heap.size w w2 := (HH.out.2.2.trans (hba.mono HH.out.2.2.size)).grown hg (by have := HH.out.2.2.size; simp; omega) (fun j hj => by cases hj; exact Nat.le_refl _)
        have HF : Hid ((mvOk (K k) (M k) (stand K M k (M k)) = true → IMap w2 w.heap.size (k + 1) (stand K M (k + 1))) ∧ Below w.heap.size w w2) := ⟨him, hb2⟩
        clear him hg hb2 hba
        rw [← HE.out]
        cases he : evOk K P M k
        · have HN : Hid (goodE K P M n = false) := good_bad hlt he
          go_wp2
          go_ret
          exact ⟨ret_bool HN.out.symm, HF.out.2⟩
        · go_wp2
          go_roundw
          case rel => exact ⟨k + 1, by omega, by go_num, HF.out.1 (by rw [← HE.out]; exact he), upto_succ HH.out.2.1 he, HF.out.2⟩
          case measure => simp [intOf]; omega
    · have hkn : k = n := by omega
      subst hkn
      have HN : Hid (goodE K P M k = true) := by show goodE K P M k = true; rw [good_all hall]; simpa using h60
      have HB : Hid (Below w.heap.size w wr) := hBr
      clear hI hall hBr
      go_wp2
      go_ret
      exact ⟨ret_bool HN.out.symm, HB.out⟩
end Go.Proofs.Ytjophhiccbkpjaa
