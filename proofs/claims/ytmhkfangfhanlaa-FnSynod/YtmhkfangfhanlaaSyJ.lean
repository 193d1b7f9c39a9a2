/- Synods: the program's GoodSynod. -/
import Derived.Test.YtmhkfangfhanlaaSyI
namespace Go.Proofs.Ytmhkfangfhanlaa
open Go.RowKit
set_option linter.unusedVariables false
set_option linter.unusedSimpArgs false

set_option maxRecDepth 100000 in
set_option maxHeartbeats 4000000 in
theorem goodSynod_n (cs : List Value) (ac : List (Sh.T shAcceptor)) (ps : List (Sh.T shProposer)) (w : World) (hz : szD shSynod (ac, ps, ()) ≤ 1073741824) (h : Lies w shSynod cs (ac, ps, ())) :
    Calls Try.prog 16 #[.agg cs.toArray] w fun r w' => r = .returned (.bool (tf (goodS ac ps))) ∧ Below w.heap.size w w' := by
  obtain ⟨a1, k1, a2, k2, rfl, h1, h2⟩ := lies_Synod h
  have HL : Hid (Lies w (.list shAcceptor) [.slice a1 ac.length k1] ac ∧ Lies w (.list shProposer) [.slice a2 ps.length k2] ps) := ⟨h1, h2⟩
  have HZ : Hid (szD shSynod (ac, ps, ()) ≤ 1073741824) := hz
  have hsz := syn_sizes hz
  have hnc := hsz.2.2.1
  have hno := hsz.2.2.2
  clear h h1 h2 hz hsz
  obtain ⟨nc, hncE⟩ : ∃ n, n = ac.length := ⟨_, rfl⟩
  obtain ⟨no, hnoE⟩ : ∃ n, n = ps.length := ⟨_, rfl⟩
  have HNC : Hid (nc = ac.length ∧ no = ps.length) := ⟨hncE, hnoE⟩
  rw [← hncE] at hnc ⊢
  rw [← hnoE] at hno ⊢
  clear hncE hnoE
  cases c0 : inR (nc : Int) 1 12
  · have HN : Hid (¬ goodS ac ps) := Hid.intro (fun q => by
      have h1 := q.1
      rw [← HNC.out.1] at h1
      rw [inR_iff.2 (by omega)] at c0; cases c0)
    go_enter Try.func16, Try.ntmps16
    go_wp2_with (first | (go_at_call 54; refine (inRange_any _ _ _ _).mono ?_; rintro e w' ⟨rfl, rfl⟩))
    go_ret
    exact ⟨goodS_none HN.out, (by repeat (first | refine Below.setCell ?_ (by (try simp) <;> omega) _ | refine Below.alloc ?_ (by (try simp) <;> omega) _ | refine Below.drew ?_ | assumption | exact Below.refl _ _ | refine Below.trans ?_ (Below.mono (by assumption) (by (try simp) <;> omega))))⟩
  cases c1 : inR (no : Int) 1 8
  · have HN : Hid (¬ goodS ac ps) := Hid.intro (fun q => by
      have h1 := q.2.1
      rw [← HNC.out.2] at h1
      rw [inR_iff.2 (by omega)] at c1; cases c1)
    go_enter Try.func16, Try.ntmps16
    go_wp2_with (first | (go_at_call 54; refine (inRange_any _ _ _ _).mono ?_; rintro e w' ⟨rfl, rfl⟩))
    go_ret
    exact ⟨goodS_none HN.out, (by repeat (first | refine Below.setCell ?_ (by (try simp) <;> omega) _ | refine Below.alloc ?_ (by (try simp) <;> omega) _ | refine Below.drew ?_ | assumption | exact Below.refl _ _ | refine Below.trans ?_ (Below.mono (by assumption) (by (try simp) <;> omega))))⟩
  have hnc2 := inR_iff.1 c0
  have hno2 := inR_iff.1 c1
  have HB0 : Hid (Bx (w.alloc (.cells #[.slice a1 nc k1, .slice a2 no k2] 30)) w.heap.size [.slice a1 nc k1, .slice a2 no k2] ∧ Below w.heap.size w (w.alloc (.cells #[.slice a1 nc k1, .slice a2 no k2] 30))) := ⟨Bx.new w [_, _] _, Go.Joins.below_alloc1 _ _⟩
  go_enter Try.func16, Try.ntmps16
  go_wp2_with (first | (go_at_call 54; refine (inRange_any _ _ _ _).mono ?_; rintro e w' ⟨rfl, rfl⟩))
  clear c0 c1
  go_loopw [22] (fun i wr => ∃ k : Nat, k ≤ nc ∧ i = .int .i64 k ∧ (∀ c ∈ ac.take k, accP no c) ∧ Bx wr w.heap.size [.slice a1 nc k1, .slice a2 no k2] ∧ Below w.heap.size w wr) (fun i _ => nc - (intOf i).toNat)
  case atStart => exact ⟨0, Nat.zero_le _, rfl, fun o ho => by simp at ho, HB0.out⟩
  case round =>
    obtain ⟨k, hk, rfl, hall, hbx, hBr⟩ := hrel
    clear HB0
    have HA : Hid ((∀ c ∈ ac.take k, accP no c) ∧ Bx wr w.heap.size [.slice a1 nc k1, .slice a2 no k2] ∧ Below w.heap.size w wr) := ⟨hall, hbx, hBr⟩
    clear hall
    have s0 := (hbx).cell 0 rfl; have s1 := (hbx).cell 1 rfl; have sz := (hbx).2
    by_cases hlt : k < nc
    · have hlx : k < ac.length := by have := HNC.out.1; omega
      have hlt' : (k : Int) < (nc : Int) := by omega
      have HLE : Hid (Lies wr (.list shAcceptor) [.slice a1 ac.length k1] ac) := HL.out.1.next hBr
      obtain ⟨xg, xoff, xgo, xgs, xec, xel, xhec, xle⟩ := Lies.elem (HLE.out) hlx
      subst xgo
      rcases xX : ac[k] with ⟨x0, x1, x2, ⟨⟩⟩
      rw [xX] at xle
      have xH : Hid (ac[k] = (x0, x1, x2, ())) := xX
      clear xX
      obtain xev := lies_Acceptor xle
      subst xev
      have xc0 : wr.cell? ⟨xg, xoff + k * 3, none⟩ = some (.int .i64 x0) := xhec 0 (by simp)
      have xc1 : wr.cell? ⟨xg, xoff + k * 3 + 1, none⟩ = some (.int .i64 x1) := xhec 1 (by simp)
      have xc2 : wr.cell? ⟨xg, xoff + k * 3 + 2, none⟩ = some (.string x2) := xhec 2 (by simp)
      clear xhec xel xle
      have HV : Hid (x2.size ≤ maxLen) := Hid.intro (by
        have := (syn_sizes HZ.out).1 ac[k] (List.getElem_mem hlx)
        rw [xH.out] at this
        exact size_text this)
      have HB1 : Hid (Bx (wr.alloc (.cells #[.int .i64 x0, .int .i64 x1, .string x2] 91)) w.heap.size [.slice (some ⟨xg, xoff, none⟩) nc k1, .slice a2 no k2] ∧ Below w.heap.size w (wr.alloc (.cells #[.int .i64 x0, .int .i64 x1, .string x2] 91))) := ⟨HA.out.2.1.alloc _, HA.out.2.2.alloc HA.out.2.2.size _⟩
      clear hbx hBr HLE
      cases e1 : inR x0 0 (no : Int)
      · have HN : Hid (¬ goodS ac ps) := Hid.intro (fun q => by
          have h1 := (q.2.2.1 ac[k] (List.getElem_mem hlx)).1
          rw [xH.out, ← HNC.out.2] at h1
          rw [inR_iff.2 h1] at e1; cases e1)
        go_wp2_with (first | (go_at_call 54; refine (inRange_any _ _ _ _).mono ?_; rintro e w' ⟨rfl, rfl⟩))
        go_ret
        exact ⟨goodS_none HN.out, HB1.out.2⟩
      by_cases e : oldP x1 x0 x2
      · have HT : Hid (tf (oldP x1 x0 x2) = true) := tf_yes e
        have HS : Hid (accP no ac[k]) := Hid.intro (by rw [xH.out]; exact ⟨inR_iff.1 e1, e⟩)
        clear e
        go_wp2_with (first | (go_at_call 54; refine (inRange_any _ _ _ _).mono ?_; rintro e w' ⟨rfl, rfl⟩) | (go_at_call 55; refine (HT.out ▸ isAccepted_n _ _ _ _ HV.out).mono ?_; rintro e w' ⟨rfl, rfl⟩))
        go_roundw
        case rel => exact ⟨k + 1, by omega, by go_num, mem_take_succ hlx HA.out.1 HS.out, HB1.out⟩
        case measure => simp [intOf]; omega
      · have HT : Hid (tf (oldP x1 x0 x2) = false) := tf_no e
        have HN : Hid (¬ goodS ac ps) := Hid.intro (fun q => e (by have := (q.2.2.1 ac[k] (List.getElem_mem hlx)).2; rwa [xH.out] at this))
        clear e
        go_wp2_with (first | (go_at_call 54; refine (inRange_any _ _ _ _).mono ?_; rintro e w' ⟨rfl, rfl⟩) | (go_at_call 55; refine (HT.out ▸ isAccepted_n _ _ _ _ HV.out).mono ?_; rintro e w' ⟨rfl, rfl⟩))
        go_ret
        exact ⟨goodS_none HN.out, HB1.out.2⟩
    · have hkn : k = nc := by omega
      have HCP : Hid (∀ c ∈ ac, accP no c) := Hid.intro (by have := HA.out.1; rwa [hkn, HNC.out.1, List.take_length] at this)
      have HB1 : Hid (Bx wr w.heap.size [.slice a1 nc k1, .slice a2 no k2] ∧ Below w.heap.size w wr) := HA.out.2
      clear HA hbx hBr hkn
      go_wp2
      clear s0 s1 sz
      go_loopw [47] (fun i wr => ∃ k : Nat, k ≤ no ∧ i = .int .i64 k ∧ proK nc ps k ∧ Bx wr w.heap.size [.slice a1 nc k1, .slice a2 no k2] ∧ Below w.heap.size w wr) (fun i _ => no - (intOf i).toNat)
      case atStart => exact ⟨0, Nat.zero_le _, rfl, fun i _ hi => absurd hi (by omega), HB1.out⟩
      case round =>
        obtain ⟨k, hk, rfl, hall, hbx, hBr⟩ := hrel
        clear HB1
        have HA : Hid (proK nc ps k ∧ Bx wr w.heap.size [.slice a1 nc k1, .slice a2 no k2] ∧ Below w.heap.size w wr) := ⟨hall, hbx, hBr⟩
        clear hall
        have s0 := (hbx).cell 0 rfl; have s1 := (hbx).cell 1 rfl; have sz := (hbx).2
        by_cases hlt : k < no
        · have hlx : k < ps.length := by have := HNC.out.2; omega
          have hlt' : (k : Int) < (no : Int) := by omega
          have HLE : Hid (Lies wr (.list shProposer) [.slice a2 ps.length k2] ps) := HL.out.2.next hBr
          obtain ⟨xg, xoff, xgo, xgs, xec, xel, xhec, xle⟩ := Lies.elem (HLE.out) hlx
          subst xgo
          rcases xX : ps[k] with ⟨x0, x1, x2, x3, x4, ⟨⟩⟩
          rw [xX] at xle
          have xH : Hid (ps[k] = (x0, x1, x2, x3, x4, ())) := xX
          clear xX
          obtain ⟨xa1, xk1, xa2, xk2, xev, xq1, xq2⟩ := lies_Proposer xle
          subst xev
          have xc0 : wr.cell? ⟨xg, xoff + k * 5, none⟩ = some (.string x0) := xhec 0 (by simp)
          have xc1 : wr.cell? ⟨xg, xoff + k * 5 + 1, none⟩ = some (.slice xa1 x1.length xk1) := xhec 1 (by simp)
          have xc2 : wr.cell? ⟨xg, xoff + k * 5 + 2, none⟩ = some (.bool x2) := xhec 2 (by simp)
          have xc3 : wr.cell? ⟨xg, xoff + k * 5 + 3, none⟩ = some (.string x3) := xhec 3 (by simp)
          have xc4 : wr.cell? ⟨xg, xoff + k * 5 + 4, none⟩ = some (.slice xa2 x4.length xk2) := xhec 4 (by simp)
          clear xhec xel xle
          have hV := (syn_sizes HZ.out).2.1 ps[k] (List.getElem_mem hlx)
          rw [xH.out] at hV
          have HV : Hid (x0.size ≤ maxLen ∧ szD (.list shPromise) x1 ≤ 1073741824 ∧ x3.size ≤ maxLen ∧ x4.length ≤ 1073741824) := ⟨size_text hV.1, hV.2.1, size_text hV.2.2.1, hV.2.2.2⟩
          obtain ⟨w0, hw0⟩ : ∃ x, x = wr.alloc (.cells #[.string x0, .slice xa1 x1.length xk1, .bool x2, .string x3, .slice xa2 x4.length xk2] 43) := ⟨_, rfl⟩
          have hb0 : Below wr.heap.size wr w0 := hw0 ▸ Go.Joins.below_alloc1 _ _
          have HB1 : Hid (Bx w0 w.heap.size [.slice a1 nc k1, .slice (some ⟨xg, xoff, none⟩) no k2] ∧ Below w.heap.size w w0 ∧ Lies w0 (.list shPromise) [.slice xa1 x1.length xk1] x1 ∧ Lies w0 (.list .int) [.slice xa2 x4.length xk2] x4) := ⟨hbx.next hb0, below_next hBr hb0, xq1.next hb0, xq2.next hb0⟩
          clear hbx hBr HLE xq1 xq2 hV
          go_wp2_with fail
          rw [← hw0]
          clear hw0 hb0 s0 s1 sz xc0 xc1 xc2 xc3 xc4
          refine (isProposer_n x0 _ _ x1 x2 x3 _ _ x4 _ _ _ HV.out.1 HV.out.2.1 HV.out.2.2.1 HV.out.2.2.2 hnc2 (by omega) HB1.out.2.2.1 HB1.out.2.2.2).mono ?_
          rintro r w1 ⟨rfl, hb⟩
          have HB2 : Hid (Bx w1 w.heap.size [.slice a1 nc k1, .slice (some ⟨xg, xoff, none⟩) no k2] ∧ Below w.heap.size w w1) := ⟨HB1.out.1.next hb, below_next HB1.out.2.1 hb⟩
          clear hb HB1
          by_cases e : proQ ((k : Int) + 1) nc x0 x1 x2 x3 x4
          · rw [tf_yes e]
            have HS : Hid (proK nc ps (k + 1)) := Hid.intro (proK_succ hlx HA.out.1 (by rw [xH.out]; exact e))
            clear e
            go_wp2
            go_roundw
            case rel => exact ⟨k + 1, by omega, by go_num, HS.out, HB2.out⟩
            case measure => simp [intOf]; omega
          · rw [tf_no e]
            have HN : Hid (¬ goodS ac ps) := Hid.intro (fun q => e (by
              have h1 := q.2.2.2 k hlx hlx
              rw [xH.out, ← HNC.out.1] at h1
              exact h1))
            clear e
            go_wp2
            go_ret
            exact ⟨goodS_none HN.out, HB2.out.2⟩
        · have hkn : k = no := by omega
          have HF : Hid (goodS ac ps) := Hid.intro (by
            have h1 := HA.out.1
            rw [hkn] at h1
            refine ⟨by have := HNC.out.1; omega, by have := HNC.out.2; omega, by rw [← HNC.out.2]; exact HCP.out, ?_⟩
            rw [← HNC.out.1, ← HNC.out.2]; exact h1)
          have HB2 : Hid (Below w.heap.size w wr) := hBr
          clear hkn hbx hBr
          go_wp2
          go_ret
          exact ⟨goodS_yes HF.out, HB2.out⟩
end Go.Proofs.Ytmhkfangfhanlaa
