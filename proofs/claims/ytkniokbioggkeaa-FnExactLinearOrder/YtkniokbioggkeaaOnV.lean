/- The contracts of valueIn and of the specification's l3Value. -/
import Derived.Test.YtkniokbioggkeaaOnG
import Derived.Test.YtkniokbioggkeaaBsCellW
import Derived.Test.YtkniokbioggkeaaBx
namespace Go.Proofs.Ytkniokbioggkeaa
open Go.RowKit
set_option linter.unusedVariables false

set_option maxRecDepth 100000 in
set_option maxHeartbeats 4000000 in
theorem valueIn_any (a : Option Addr) (cap : Nat) (L : List CellV) (t : ByteArray) (w : World) (hn : L.length ≤ 67108864) (hr : riseL L) (hs : Sl w a L.length 2 (cellF (cV L))) :
    Calls Try.prog 67 #[.slice a L.length cap, .string t] w fun r w' => r = .returned (.string (valL L t.toList)) ∧ Below w.heap.size w w' := by
  have HS : Hid (Sl w a L.length 2 (cellF (cV L)) ∧ riseL L) := ⟨hs, hr⟩
  clear hs hr
  go_enter Try.func67, Try.ntmps67
  go_wp2_with fail
  refine (cellPlaceW_any _ _ _ (cV L) t _ hn HS.out.1).mono ?_
  rintro r w1 ⟨p, f, rfl, hp, hb⟩
  have HP : Hid (Placed (fun q => (cV L q).f0) L.length t p f ∧ Below w.heap.size w w1) := ⟨hp, hb⟩
  have hpl : p ≤ L.length := hp.1
  have hSl : Sl w1 a L.length 2 (cellF (cV L)) := HS.out.1.below hb (Nat.le_refl _)
  clear hp hb
  cases f
  · have HN : Hid (valL L t.toList = ⟨#[]⟩) := valL_none (fun q hq => (HP.out.1.2.2 HS.out.2).2.2 rfl q hq)
    clear hSl
    go_wp2
    go_ret
    exact ⟨by rw [HN.out]; rfl, HP.out.2⟩
  · obtain ⟨hpn, he⟩ := HP.out.1.2.1 rfl
    have HN : Hid (valL L t.toList = (cV L p).f1) := valL_at hpn he (fun q hq e => by
      have := riseK_lt HS.out.2 hq hpn
      simp only at this he
      rw [e, he, less_irr] at this; cases this)
    have hpn' : (p : Int) < (L.length : Int) := by omega
    rcases hSl with h | ⟨b, off, rfl, hbs, hE⟩
    · omega
    obtain ⟨c0, c1⟩ := cell_cells hE hpn
    clear hE he
    go_wp2
    go_ret
    exact ⟨by rw [HN.out]; rfl, HP.out.2⟩

set_option maxRecDepth 100000 in
set_option maxHeartbeats 4000000 in
theorem l3Value_any (a : Option Addr) (cap : Nat) (L : List CellV) (t : ByteArray) (w : World) (hn : L.length ≤ 67108864) (hs : Sl w a L.length 2 (cellF (cV L))) :
    Calls Try.prog 50 #[.slice a L.length cap, .string t] w fun r w' => r = .returned (.string (valL L t.toList)) ∧ Below w.heap.size w w' := by
  have HS : Hid (Sl w a L.length 2 (cellF (cV L))) := hs
  clear hs
  go_enter Try.func50, Try.ntmps50
  go_wp2
  go_loopw [9] (fun i wr => ∃ k : Nat, k ≤ L.length ∧ i = .int .i64 k ∧ (∀ q, q < k → (cV L q).f0.toList ≠ t.toList) ∧ Below w.heap.size w wr) (fun i _ => L.length - (intOf i).toNat)
  case atStart => exact ⟨0, Nat.zero_le _, rfl, fun i hi => absurd hi (by omega), Below.refl _ _⟩
  case round =>
    obtain ⟨k, hk, rfl, hall, hBr⟩ := hrel
    by_cases hlt : k < L.length
    · rcases HS.out.below hBr (Nat.le_refl _) with h | ⟨b, off, rfl, hbs, hE⟩
      · omega
      have hlt' : (k : Int) < (L.length : Int) := by omega
      obtain ⟨c0, c1⟩ := cell_cells hE hlt
      have HA : Hid (∀ q, q < k → (cV L q).f0.toList ≠ t.toList) := hall
      have HB : Hid (Below w.heap.size w (wr.alloc (.cells #[.string (cV L k).f0, .string (cV L k).f1] 71))) := below_nx hBr (Go.Joins.below_alloc1 _ _)
      clear hall hBr hE
      cases he : ((cV L k).f0.toList == t.toList)
      · have HK : Hid ((cV L k).f0.toList ≠ t.toList) := by show _ ≠ _; simpa using he
        go_wp2
        go_roundw
        case rel => exact ⟨k + 1, by omega, by go_num, upto_succ HA.out HK.out, HB.out⟩
        case measure => simp [intOf]; omega
      · have HN : Hid (valL L t.toList = (cV L k).f1) := valL_at hlt (by simpa using he) HA.out
        go_wp2
        go_ret
        exact ⟨by rw [HN.out]; rfl, HB.out⟩
    · have hkn : k = L.length := by omega
      have hlt' : ¬ (k : Int) < (L.length : Int) := by omega
      have HN : Hid (valL L t.toList = ⟨#[]⟩) := valL_none (by rw [← hkn]; exact hall)
      have HB : Hid (Below w.heap.size w wr) := hBr
      clear hall hBr hkn
      go_wp2
      go_ret
      exact ⟨by rw [HN.out]; rfl, HB.out⟩
end Go.Proofs.Ytkniokbioggkeaa
