/- Synods: the small tests of both sides: what was accepted, promises, the value that is fixed. -/
import Derived.Test.YtmhkfangfhanlaaSyG
import Derived.Test.YtmhkfangfhanlaaValI
import Derived.Test.YtmhkfangfhanlaaGrI
import Derived.Test.YtmhkfangfhanlaaRg2
import Derived.Deep.RegionWith
import Derived.Deep.DeepCutAuto
import Derived.Deep.QuietTactic
import Derived.BigQuiet
namespace Go.Proofs.Ytmhkfangfhanlaa
open Go.RowKit
set_option linter.unusedVariables false
set_option linter.unusedSimpArgs false

theorem old_inR {b g : Int} {v : ByteArray} : tf (oldP b g v) = (inR b 0 g && (valOk v && (decide (0 < b) || v.toList.isEmpty))) := by
  rw [Bool.eq_iff_iff, tf_iff, Bool.and_eq_true, Bool.and_eq_true, inR_iff, Bool.or_eq_true, empty_iff, decide_eq_true_eq]; exact Iff.rfl

set_option maxHeartbeats 1000000 in
theorem isMost_n (m : Nat) (n : Int) (w : World) (hm : m ≤ 1073741824) :
    Calls Try.prog 50 #[.int .i64 m, .int .i64 n] w fun r w' => r = .returned (.bool (decide (n < 2 * (m : Int)))) ∧ w' = w := by
  go_enter Try.func50, Try.ntmps50
  go_wp2
  go_ret
  exact ⟨rfl, rfl⟩

set_option maxHeartbeats 1000000 in
theorem isAccepted_n (b g : Int) (v : ByteArray) (w : World) (hv : v.size ≤ maxLen) :
    Calls Try.prog 55 #[.int .i64 b, .int .i64 g, .string v] w fun r w' => r = .returned (.bool (tf (oldP b g v))) ∧ w' = w := by
  rw [old_inR]
  have HV : Hid (v.size ≤ maxLen) := hv
  clear hv
  cases h1 : inR b 0 g
  · go_enter Try.func55, Try.ntmps55
    go_wp2_with (first | (go_at_call 54; refine (inRange_any _ _ _ _).mono ?_; rintro e w' ⟨rfl, rfl⟩))
    go_ret
    exact ⟨by simp, rfl⟩
  cases h3 : valOk v
  · go_enter Try.func55, Try.ntmps55
    go_wp2_with (first | (go_at_call 54; refine (inRange_any _ _ _ _).mono ?_; rintro e w' ⟨rfl, rfl⟩) | (go_at_call 62; refine (isValue_any _ _ HV.out).mono ?_; rintro e w' ⟨rfl, rfl⟩))
    go_ret
    exact ⟨by simp, rfl⟩
  by_cases h4 : 0 < b
  · go_enter Try.func55, Try.ntmps55
    go_wp2_with (first | (go_at_call 54; refine (inRange_any _ _ _ _).mono ?_; rintro e w' ⟨rfl, rfl⟩) | (go_at_call 62; refine (isValue_any _ _ HV.out).mono ?_; rintro e w' ⟨rfl, rfl⟩))
    go_ret
    exact ⟨by simp [h4], rfl⟩
  cases h5 : v.toList.isEmpty
  · go_enter Try.func55, Try.ntmps55
    go_wp2_with (first | (go_at_call 54; refine (inRange_any _ _ _ _).mono ?_; rintro e w' ⟨rfl, rfl⟩) | (go_at_call 62; refine (isValue_any _ _ HV.out).mono ?_; rintro e w' ⟨rfl, rfl⟩))
    go_ret
    exact ⟨by simp, rfl⟩
  · go_enter Try.func55, Try.ntmps55
    go_wp2_with (first | (go_at_call 54; refine (inRange_any _ _ _ _).mono ?_; rintro e w' ⟨rfl, rfl⟩) | (go_at_call 62; refine (isValue_any _ _ HV.out).mono ?_; rintro e w' ⟨rfl, rfl⟩))
    go_ret
    exact ⟨by simp, rfl⟩

set_option maxHeartbeats 1000000 in
theorem l10Old_n (b g : Int) (v : ByteArray) (w : World) (hv : v.size ≤ maxLen) :
    Calls Try.prog 59 #[.int .i64 b, .int .i64 g, .string v] w fun r w' => r = .returned (.bool (tf (oldP b g v))) ∧ w' = w := by
  rw [old_inR]
  have HV : Hid (v.size ≤ maxLen) := hv
  clear hv
  cases h1 : inR b 0 g
  · go_enter Try.func59, Try.ntmps59
    go_wp2_with (first | (go_at_call 58; refine (l1In_any _ _ _ _).mono ?_; rintro e w' ⟨rfl, rfl⟩))
    go_ret
    exact ⟨by simp, rfl⟩
  cases h3 : valOk v
  · go_enter Try.func59, Try.ntmps59
    go_wp2_with (first | (go_at_call 58; refine (l1In_any _ _ _ _).mono ?_; rintro e w' ⟨rfl, rfl⟩) | (go_at_call 60; refine (l1Value_any _ _ HV.out).mono ?_; rintro e w' ⟨rfl, rfl⟩))
    go_ret
    exact ⟨by simp, rfl⟩
  by_cases h4 : 0 < b
  · go_enter Try.func59, Try.ntmps59
    go_wp2_with (first | (go_at_call 58; refine (l1In_any _ _ _ _).mono ?_; rintro e w' ⟨rfl, rfl⟩) | (go_at_call 60; refine (l1Value_any _ _ HV.out).mono ?_; rintro e w' ⟨rfl, rfl⟩))
    go_ret
    exact ⟨by simp [h4], rfl⟩
  cases h5 : v.toList.isEmpty
  · go_enter Try.func59, Try.ntmps59
    go_wp2_with (first | (go_at_call 58; refine (l1In_any _ _ _ _).mono ?_; rintro e w' ⟨rfl, rfl⟩) | (go_at_call 60; refine (l1Value_any _ _ HV.out).mono ?_; rintro e w' ⟨rfl, rfl⟩))
    go_ret
    exact ⟨by simp, rfl⟩
  · go_enter Try.func59, Try.ntmps59
    go_wp2_with (first | (go_at_call 58; refine (l1In_any _ _ _ _).mono ?_; rintro e w' ⟨rfl, rfl⟩) | (go_at_call 60; refine (l1Value_any _ _ HV.out).mono ?_; rintro e w' ⟨rfl, rfl⟩))
    go_ret
    exact ⟨by simp, rfl⟩

set_option maxRecDepth 100000 in
set_option maxHeartbeats 2000000 in
theorem arePromises_n (a : Option Addr) (cap : Nat) (l : List (Sh.T shPromise)) (bal nc : Int) (w : World) (hz : szD (.list shPromise) l ≤ 1073741824) (hnc : 0 ≤ nc ∧ nc ≤ 12) (hbal : 1 ≤ bal ∧ bal ≤ 8) (h : Lies w (.list shPromise) [.slice a l.length cap] l) :
    Calls Try.prog 91 #[.slice a l.length cap, .int .i64 bal, .int .i64 nc] w fun r w' => r = .returned (.bool (tf (prsP bal nc l))) ∧ Below w.heap.size w w' := by
  have HL : Hid (Lies w (.list shPromise) [.slice a l.length cap] l) := h
  have HZ : Hid (szD (.list shPromise) l ≤ 1073741824) := hz
  have hn := (pms_sizes hz).2
  clear h hz
  obtain ⟨n, hnE⟩ : ∃ n, n = l.length := ⟨_, rfl⟩
  have HN : Hid (n = l.length) := hnE
  rw [← hnE] at hn ⊢
  clear hnE
  go_enter Try.func91, Try.ntmps91
  go_wp2
  go_loopw [12, 7] (fun i m wr => ∃ k : Nat, k ≤ n ∧ i = .int .i64 k ∧ m = .int .i64 (lstP l k) ∧ prsP bal nc (l.take k) ∧ Below w.heap.size w wr) (fun i _ _ => n - (intOf i).toNat)
  case atStart => exact ⟨0, Nat.zero_le _, rfl, rfl, prs_zero, Below.refl _ _⟩
  case round =>
    obtain ⟨k, hk, rfl, rfl, hall, hBr⟩ := hrel
    have HA : Hid (prsP bal nc (l.take k) ∧ Below w.heap.size w wr) := ⟨hall, hBr⟩
    by_cases hlt : k < n
    · have hlx : k < l.length := by have := HN.out; omega
      have hlt' : (k : Int) < (n : Int) := by omega
      have HIN : Hid ((inR (pnd l[k]) (lstP l k) (nc - 1) = true) ↔ ((0 ≤ pnd l[k] ∧ pnd l[k] ≤ nc - 1) ∧ ∀ x ∈ l.take k, pnd x < pnd l[k])) := Hid.intro (lst_in hlx hall)
      have hlb := lst_bd (by omega) hall hnc.1
      have HSU : Hid (lstP l (k + 1) = pnd l[k] + 1) := Hid.intro (lst_succ hlx)
      obtain ⟨lk, hlk⟩ : ∃ x, x = lstP l k := ⟨_, rfl⟩
      rw [← hlk] at hlb HIN ⊢
      clear hlk hall
      have HLE : Hid (Lies wr (.list shPromise) [.slice a l.length cap] l) := HL.out.next hBr
      obtain ⟨xg, xoff, xgo, xgs, xec, xel, xhec, xle⟩ := Lies.elem (HLE.out) hlx
      subst xgo
      rcases xX : l[k] with ⟨x0, x1, x2, ⟨⟩⟩
      rw [xX] at xle
      have xH : Hid (l[k] = (x0, x1, x2, ())) := xX
      clear xX
      obtain xev := lies_Promise xle
      subst xev
      have xc0 : wr.cell? ⟨xg, xoff + k * 3, none⟩ = some (.int .i64 x0) := xhec 0 (by simp)
      have xc1 : wr.cell? ⟨xg, xoff + k * 3 + 1, none⟩ = some (.int .i64 x1) := xhec 1 (by simp)
      have xc2 : wr.cell? ⟨xg, xoff + k * 3 + 2, none⟩ = some (.string x2) := xhec 2 (by simp)
      clear xhec xel xle
      have HV : Hid (x2.size ≤ maxLen) := Hid.intro (by
        have := (pms_sizes HZ.out).1 l[k] (List.getElem_mem hlx)
        rw [xH.out] at this
        exact size_text this)
      have HPN : Hid (pnd l[k] = x0 ∧ (prmP bal nc l[k] ↔ (0 ≤ x0 ∧ x0 ≤ nc - 1) ∧ oldP x1 (bal - 1) x2)) := Hid.intro (by rw [xH.out]; exact ⟨rfl, Iff.rfl⟩)
      rw [HPN.out.1] at HIN HSU
      have HB1 : Hid (Below w.heap.size w (wr.alloc (.cells #[.int .i64 x0, .int .i64 x1, .string x2] 96))) := hBr.alloc hBr.size _
      clear HLE hBr
      cases c1 : inR x0 lk (nc - 1)
      · have HNO : Hid (¬ prsP bal nc l) := Hid.intro (fun q => by
          have h1 := prs_pre q k hlx
          rw [HIN.out.2 ⟨by have := h1.1.1; rwa [HPN.out.1] at this, by have := h1.2; rwa [HPN.out.1] at this⟩] at c1; cases c1)
        clear HIN
        go_wp2_with (first | (go_at_call 54; refine (inRange_any _ _ _ _).mono ?_; rintro e w' ⟨rfl, rfl⟩))
        go_ret
        exact ⟨ret_bool (tf_no HNO.out).symm, HB1.out⟩
      have hin := inR_iff.1 c1
      by_cases e : oldP x1 (bal - 1) x2
      · have HT : Hid (tf (oldP x1 (bal - 1) x2) = true) := tf_yes e
        have HNX : Hid (prsP bal nc (l.take (k + 1))) := Hid.intro (prs_succ hlx HA.out.1 (HPN.out.2.2 ⟨(HIN.out.1 c1).1, e⟩) (by rw [HPN.out.1]; exact (HIN.out.1 c1).2))
        clear e HIN
        go_wp2_with (first | (go_at_call 54; refine (inRange_any _ _ _ _).mono ?_; rintro e w' ⟨rfl, rfl⟩) | (go_at_call 55; refine (HT.out ▸ isAccepted_n _ _ _ _ HV.out).mono ?_; rintro e w' ⟨rfl, rfl⟩))
        go_roundw
        case rel => exact ⟨k + 1, by omega, by go_num, by rw [HSU.out], HNX.out, HB1.out⟩
        case measure => simp [intOf]; omega
      · have HT : Hid (tf (oldP x1 (bal - 1) x2) = false) := tf_no e
        have HNO : Hid (¬ prsP bal nc l) := Hid.intro (fun q => e (HPN.out.2.1 (prs_pre q k hlx).1).2)
        clear e HIN
        go_wp2_with (first | (go_at_call 54; refine (inRange_any _ _ _ _).mono ?_; rintro e w' ⟨rfl, rfl⟩) | (go_at_call 55; refine (HT.out ▸ isAccepted_n _ _ _ _ HV.out).mono ?_; rintro e w' ⟨rfl, rfl⟩))
        go_ret
        exact ⟨ret_bool (tf_no HNO.out).symm, HB1.out⟩
    · have hkn : k = n := by omega
      have HF : Hid (prsP bal nc l ∧ Below w.heap.size w wr) := Hid.intro (by have := HA.out.1; rw [hkn, HN.out, List.take_length] at this; exact ⟨this, hBr⟩)
      clear hall hBr HA hkn
      go_wp2
      go_ret
      exact ⟨ret_bool (tf_yes HF.out.1).symm, HF.out.2⟩

set_option maxRecDepth 100000 in
set_option maxHeartbeats 2000000 in
theorem fixedValue_n (own : ByteArray) (a : Option Addr) (cap : Nat) (l : List (Sh.T shPromise)) (fx : Bool) (v : ByteArray) (a2 : Option Addr) (n2 cap2 : Nat) (w : World) (hz : szD (.list shPromise) l ≤ 1073741824) (h : Lies w (.list shPromise) [.slice a l.length cap] l) :
    Calls Try.prog 92 #[.agg #[.string own, .slice a l.length cap, .bool fx, .string v, .slice a2 n2 cap2]] w fun r w' => r = .returned (.string (fixV own l)) ∧ Below w.heap.size w w' := by
  have HL : Hid (Lies w (.list shPromise) [.slice a l.length cap] l) := h
  have hn := (pms_sizes hz).2
  clear h hz
  obtain ⟨n, hnE⟩ : ∃ n, n = l.length := ⟨_, rfl⟩
  have HN : Hid (n = l.length) := hnE
  rw [← hnE] at hn ⊢
  clear hnE
  have HB0 : Hid (Below w.heap.size w (w.alloc (.cells #[.string own, .slice a n cap, .bool fx, .string v, .slice a2 n2 cap2] 43))) := Go.Joins.below_alloc1 _ _
  go_enter Try.func92, Try.ntmps92
  go_wp2
  go_loopw [12, 3, 4] (fun i s m wr => ∃ k : Nat, k ≤ n ∧ i = .int .i64 k ∧ s = .string (fixF own (l.take k)).2 ∧ m = .int .i64 (fixF own (l.take k)).1 ∧ Below w.heap.size w wr) (fun i _ _ _ => n - (intOf i).toNat)
  case atStart => exact ⟨0, Nat.zero_le _, rfl, by simp [fixF], by simp [fixF], HB0.out⟩
  case round =>
    obtain ⟨k, hk, rfl, rfl, rfl, hBr⟩ := hrel
    clear HB0
    by_cases hlt : k < n
    · have hlx : k < l.length := by have := HN.out; omega
      have hlt' : (k : Int) < (n : Int) := by omega
      have HSU : Hid (fixF own (l.take (k + 1)) = fixS (fixF own (l.take k)) l[k]) := Hid.intro (fix_take hlx)
      have HLE : Hid (Lies wr (.list shPromise) [.slice a l.length cap] l) := HL.out.next hBr
      obtain ⟨xg, xoff, xgo, xgs, xec, xel, xhec, xle⟩ := Lies.elem (HLE.out) hlx
      subst xgo
      rcases xX : l[k] with ⟨x0, x1, x2, ⟨⟩⟩
      rw [xX] at xle
      have xH : Hid (l[k] = (x0, x1, x2, ())) := xX
      clear xX
      obtain xev := lies_Promise xle
      subst xev
      have xc0 : wr.cell? ⟨xg, xoff + k * 3, none⟩ = some (.int .i64 x0) := xhec 0 (by simp)
      have xc1 : wr.cell? ⟨xg, xoff + k * 3 + 1, none⟩ = some (.int .i64 x1) := xhec 1 (by simp)
      have xc2 : wr.cell? ⟨xg, xoff + k * 3 + 2, none⟩ = some (.string x2) := xhec 2 (by simp)
      clear xhec xel xle
      have HP : Hid (pbl l[k] = x1 ∧ pvl l[k] = x2) := Hid.intro (by rw [xH.out]; exact ⟨rfl, rfl⟩)
      obtain ⟨F, hF⟩ : ∃ x, x = fixF own (l.take k) := ⟨_, rfl⟩
      rw [← hF] at HSU ⊢
      clear hF
      obtain ⟨gb, gv⟩ := F
      have HB1 : Hid (Below w.heap.size w (wr.alloc (.cells #[.int .i64 x0, .int .i64 x1, .string x2] 96))) := hBr.alloc hBr.size _
      clear HLE hBr
      by_cases e : gb < x1
      · have HS2 : Hid (fixF own (l.take (k + 1)) = (x1, x2)) := Hid.intro (by rw [HSU.out]; unfold fixS; rw [HP.out.1, HP.out.2, if_pos e])
        clear HSU
        go_wp2
        go_quiet (fail)
        go_wp2
        go_roundw
        case rel => exact ⟨k + 1, by omega, by go_num, by rw [HS2.out], by rw [HS2.out], below_dN HB1.out _⟩
        case measure => simp [intOf]; omega
      · have HS2 : Hid (fixF own (l.take (k + 1)) = (gb, gv)) := Hid.intro (by rw [HSU.out]; unfold fixS; rw [HP.out.1, HP.out.2, if_neg e])
        clear HSU
        go_wp2
        go_roundw
        case rel => exact ⟨k + 1, by omega, by go_num, by rw [HS2.out], by rw [HS2.out], HB1.out⟩
        case measure => simp [intOf]; omega
    · have hkn : k = n := by omega
      have HF : Hid ((fixF own (l.take k)).2 = fixV own l ∧ Below w.heap.size w wr) := Hid.intro (by rw [hkn, HN.out, List.take_length]; exact ⟨rfl, hBr⟩)
      clear hBr hkn
      generalize fixF own (l.take k) = F at *
      obtain ⟨gb, gv⟩ := F
      go_wp2
      go_ret
      exact ⟨congrArg (fun t => Ending.returned (.string t)) HF.out.1, HF.out.2⟩
set_option maxRecDepth 100000 in
set_option maxHeartbeats 2000000 in
theorem l10Value_n (own : ByteArray) (a : Option Addr) (cap : Nat) (l : List (Sh.T shPromise)) (fx : Bool) (v : ByteArray) (a2 : Option Addr) (n2 cap2 : Nat) (w : World) (hz : szD (.list shPromise) l ≤ 1073741824) (h : Lies w (.list shPromise) [.slice a l.length cap] l) :
    Calls Try.prog 61 #[.agg #[.string own, .slice a l.length cap, .bool fx, .string v, .slice a2 n2 cap2]] w fun r w' => r = .returned (.string (fixV own l)) ∧ Below w.heap.size w w' := by
  have HL : Hid (Lies w (.list shPromise) [.slice a l.length cap] l) := h
  have hn := (pms_sizes hz).2
  clear h hz
  obtain ⟨n, hnE⟩ : ∃ n, n = l.length := ⟨_, rfl⟩
  have HN : Hid (n = l.length) := hnE
  rw [← hnE] at hn ⊢
  clear hnE
  have HB0 : Hid (Below w.heap.size w (w.alloc (.cells #[.string own, .slice a n cap, .bool fx, .string v, .slice a2 n2 cap2] 43))) := Go.Joins.below_alloc1 _ _
  go_enter Try.func61, Try.ntmps61
  go_wp2
  go_loopw [12, 4, 3] (fun i s m wr => ∃ k : Nat, k ≤ n ∧ i = .int .i64 k ∧ s = .string (fixF own (l.take k)).2 ∧ m = .int .i64 (fixF own (l.take k)).1 ∧ Below w.heap.size w wr) (fun i _ _ _ => n - (intOf i).toNat)
  case atStart => exact ⟨0, Nat.zero_le _, rfl, by simp [fixF], by simp [fixF], HB0.out⟩
  case round =>
    obtain ⟨k, hk, rfl, rfl, rfl, hBr⟩ := hrel
    clear HB0
    by_cases hlt : k < n
    · have hlx : k < l.length := by have := HN.out; omega
      have hlt' : (k : Int) < (n : Int) := by omega
      have HSU : Hid (fixF own (l.take (k + 1)) = fixS (fixF own (l.take k)) l[k]) := Hid.intro (fix_take hlx)
      have HLE : Hid (Lies wr (.list shPromise) [.slice a l.length cap] l) := HL.out.next hBr
      obtain ⟨xg, xoff, xgo, xgs, xec, xel, xhec, xle⟩ := Lies.elem (HLE.out) hlx
      subst xgo
      rcases xX : l[k] with ⟨x0, x1, x2, ⟨⟩⟩
      rw [xX] at xle
      have xH : Hid (l[k] = (x0, x1, x2, ())) := xX
      clear xX
      obtain xev := lies_Promise xle
      subst xev
      have xc0 : wr.cell? ⟨xg, xoff + k * 3, none⟩ = some (.int .i64 x0) := xhec 0 (by simp)
      have xc1 : wr.cell? ⟨xg, xoff + k * 3 + 1, none⟩ = some (.int .i64 x1) := xhec 1 (by simp)
      have xc2 : wr.cell? ⟨xg, xoff + k * 3 + 2, none⟩ = some (.string x2) := xhec 2 (by simp)
      clear xhec xel xle
      have HP : Hid (pbl l[k] = x1 ∧ pvl l[k] = x2) := Hid.intro (by rw [xH.out]; exact ⟨rfl, rfl⟩)
      obtain ⟨F, hF⟩ : ∃ x, x = fixF own (l.take k) := ⟨_, rfl⟩
      rw [← hF] at HSU ⊢
      clear hF
      obtain ⟨gb, gv⟩ := F
      have HB1 : Hid (Below w.heap.size w (wr.alloc (.cells #[.int .i64 x0, .int .i64 x1, .string x2] 96))) := hBr.alloc hBr.size _
      clear HLE hBr
      by_cases e : gb < x1
      · have HS2 : Hid (fixF own (l.take (k + 1)) = (x1, x2)) := Hid.intro (by rw [HSU.out]; unfold fixS; rw [HP.out.1, HP.out.2, if_pos e])
        clear HSU
        go_wp2
        go_roundw
        case rel => exact ⟨k + 1, by omega, by go_num, by rw [HS2.out], by rw [HS2.out], HB1.out⟩
        case measure => simp [intOf]; omega
      · have HS2 : Hid (fixF own (l.take (k + 1)) = (gb, gv)) := Hid.intro (by rw [HSU.out]; unfold fixS; rw [HP.out.1, HP.out.2, if_neg e])
        clear HSU
        go_wp2
        go_roundw
        case rel => exact ⟨k + 1, by omega, by go_num, by rw [HS2.out], by rw [HS2.out], HB1.out⟩
        case measure => simp [intOf]; omega
    · have hkn : k = n := by omega
      have HF : Hid ((fixF own (l.take k)).2 = fixV own l ∧ Below w.heap.size w wr) := Hid.intro (by rw [hkn, HN.out, List.take_length]; exact ⟨rfl, hBr⟩)
      clear hBr hkn
      generalize fixF own (l.take k) = F at *
      obtain ⟨gb, gv⟩ := F
      go_wp2
      go_ret
      exact ⟨congrArg (fun t => Ending.returned (.string t)) HF.out.1, HF.out.2⟩
end Go.Proofs.Ytmhkfangfhanlaa
