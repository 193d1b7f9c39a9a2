/- Commits: takeCommitStep. Written by tools/mkCpD.py. -/
import Derived.Test.YtkpobihpcnoemaaDoorCpF
import Derived.Test.YtkpobihpcnoemaaDoorCpG
import Derived.Test.YtkpobihpcnoemaaDoorCpH
namespace Go.Proofs.YtkpobihpcnoemaaDoor
open Go.RowKit
set_option linter.unusedVariables false
set_option linter.unusedSimpArgs false

theorem stR_none {ss : List Shd} {dr rc k i j : Int} (h1 : ¬ k = 1) (h2 : ¬ k = 2) (h5 : ¬ k = 5) (h7 : ¬ k = 7) : stR ss dr rc k i j = none := by
  have h : ∀ s jj r, nxR ss dr rc s jj r k = none := by
    intro s jj r
    unfold nxR
    rw [if_neg h1, if_neg h2, if_neg h5, if_neg h7]
  unfold stR
  split
  · split
    · split
      · split
        · rfl
        · rw [h]; rfl
      · rfl
    · rfl
  · rfl

set_option maxRecDepth 100000 in
set_option maxHeartbeats 4000000 in
theorem takeCommitStep_n (b lo up : Nat) (v : Value) (ss : List Shd) (dr rc k i j : Int) (w : World) (hn : ss.length ≤ 1000) (hr : ∀ s ∈ ss, (srs s).length ≤ 1000) (hlo : 0 < lo ∧ lo ≤ b ∧ b < up) (hf : Flt w) (hgd : inR dr 0 2 = true ∧ inR rc 0 2 = true) (hx : CmX w b lo up v ss dr rc) :
    Calls Tryd.prog 69 #[.pointer (some ⟨b, 0, none⟩), .agg #[.int .i64 k, .int .i64 i, .int .i64 j]] w (StP lo up b v (stC ss dr rc k i j) w) := by
  obtain ⟨va, vc, hv⟩ := hx.form
  subst hv
  obtain ⟨w0, hw0⟩ : ∃ x, x = w.alloc (.cells #[.int .i64 k, .int .i64 i, .int .i64 j] 48) := ⟨_, rfl⟩
  have hb0 : Below w.heap.size w w0 := hw0 ▸ Go.Joins.below_alloc1 _ _
  have hlw : lo ≤ w.heap.size := Nat.le_of_lt (Nat.lt_of_le_of_lt hlo.2.1 hx.1.1.2)
  have HC : Hid (CmX w0 b lo up (.slice va ss.length vc) ss dr rc ∧ Bx w0 w.heap.size [.int .i64 k, .int .i64 i, .int .i64 j] ∧ TurnS (Btw lo up) w w0 ∧ Flt w0 ∧ lo ≤ w.heap.size ∧ lo ≤ w0.heap.size) := ⟨hx.next hb0, hw0 ▸ Bx.new w [_, _, _] _, TurnS.of_below hb0, hf.next hb0 hf.lt, hlw, Nat.le_trans hlw hb0.size⟩
  have HR := Hid.intro hr
  have HLO := Hid.intro hlo
  have HV : Hid (∃ p : Value, p = .slice va ss.length vc) := ⟨_, rfl⟩
  have HGD := Hid.intro hgd
  clear hb0 hx hf hr hlo hlw HV hgd
  go_enter Tryd.func69, Tryd.ntmps69
  go_upto_region 1 with fail
  rw [← hw0]
  clear hw0
  by_cases hk1 : k = 1
  · subst hk1
    have HS : Hid (stC ss dr rc 1 i j = stR ss dr rc 1 i j) := Hid.intro (by unfold stC; rw [if_neg (by decide), if_neg (by decide), if_neg (by decide)])
    have hs3 : True := trivial
    have s0 := (HC.out.2.1).cell 0 rfl; have s1 := (HC.out.2.1).cell 1 rfl; have s2 := (HC.out.2.1).cell 2 rfl; have sz := (HC.out.2.1).2
    cases hE : stR ss dr rc 1 i j with
    | none =>
      have HE := Hid.intro hE
      clear hE
      go_wp2_with (go_at_call 78; refine (lockPrimary_n b lo up _ ss dr rc 1 i j _ hn HR.out HLO.out HC.out.2.2.2.1 HC.out.1).mono ?_; rintro r w2 ⟨_, hno, hb⟩; obtain ⟨p, rfl⟩ := hno HE.out; have HB := Hid.intro (HC.out.2.2.1.trans hb); clear hno hb)
      exact ⟨rfl, StP.no (by rw [HS.out]; exact HE.out) ⟨p, rfl⟩ HB.out⟩
    | some x =>
      obtain ⟨s', d', r'⟩ := x
      have HE := Hid.intro hE
      clear hE
      go_wp2_with (go_at_call 78; refine (lockPrimary_n b lo up _ ss dr rc 1 i j _ hn HR.out HLO.out HC.out.2.2.2.1 HC.out.1).mono ?_; rintro r w2 ⟨hyes, _, hb⟩; obtain ⟨rfl, hc⟩ := hyes _ HE.out; have HB := Hid.intro (HC.out.2.2.1.trans hb); have HX := Hid.intro hc; clear hyes hb hc)
      first | (go_end0; exact StP.yes (by rw [HS.out]; exact HE.out) HX.out HB.out) | exact bodyPost_ret (v := .tuple #[]) (by simp [results, Tryd.results69]) rfl (StP.yes (by rw [HS.out]; exact HE.out) HX.out HB.out)
  by_cases hk2 : k = 2
  · subst hk2
    have HS : Hid (stC ss dr rc 2 i j = stR ss dr rc 2 i j) := Hid.intro (by unfold stC; rw [if_neg (by decide), if_neg (by decide), if_neg (by decide)])
    have hs3 : True := trivial
    have s0 := (HC.out.2.1).cell 0 rfl; have s1 := (HC.out.2.1).cell 1 rfl; have s2 := (HC.out.2.1).cell 2 rfl; have sz := (HC.out.2.1).2
    cases hE : stR ss dr rc 2 i j with
    | none =>
      have HE := Hid.intro hE
      clear hE
      go_wp2_with (go_at_call 79; refine (copyTo_n b lo up _ ss dr rc 2 i j _ hn HR.out HLO.out HC.out.2.2.2.1 HC.out.1).mono ?_; rintro r w2 ⟨_, hno, hb⟩; obtain ⟨p, rfl⟩ := hno HE.out; have HB := Hid.intro (HC.out.2.2.1.trans hb); clear hno hb)
      exact ⟨rfl, StP.no (by rw [HS.out]; exact HE.out) ⟨p, rfl⟩ HB.out⟩
    | some x =>
      obtain ⟨s', d', r'⟩ := x
      have HE := Hid.intro hE
      clear hE
      go_wp2_with (go_at_call 79; refine (copyTo_n b lo up _ ss dr rc 2 i j _ hn HR.out HLO.out HC.out.2.2.2.1 HC.out.1).mono ?_; rintro r w2 ⟨hyes, _, hb⟩; obtain ⟨rfl, hc⟩ := hyes _ HE.out; have HB := Hid.intro (HC.out.2.2.1.trans hb); have HX := Hid.intro hc; clear hyes hb hc)
      first | (go_end0; exact StP.yes (by rw [HS.out]; exact HE.out) HX.out HB.out) | exact bodyPost_ret (v := .tuple #[]) (by simp [results, Tryd.results69]) rfl (StP.yes (by rw [HS.out]; exact HE.out) HX.out HB.out)
  by_cases hk3 : k = 3
  · subst hk3
    have HS : Hid (stC ss dr rc 3 i j = tlE ss dr rc) := Hid.intro (by unfold stC; rw [if_pos rfl]; rfl)
    have hs3 : True := trivial
    have s0 := (HC.out.2.1).cell 0 rfl; have s1 := (HC.out.2.1).cell 1 rfl; have s2 := (HC.out.2.1).cell 2 rfl; have sz := (HC.out.2.1).2
    cases hE : tlE ss dr rc with
    | none =>
      have HE := Hid.intro hE
      clear hE
      go_wp2_with (go_at_call 80; refine (tellCommitted_n b lo up _ ss dr rc _ hn HR.out HLO.out HC.out.2.2.2.1 HC.out.1).mono ?_; rintro r w2 ⟨_, hno, hb⟩; obtain ⟨p, rfl⟩ := hno HE.out; have HB := Hid.intro (HC.out.2.2.1.trans hb); clear hno hb)
      exact ⟨rfl, StP.no (by rw [HS.out]; exact HE.out) ⟨p, rfl⟩ HB.out⟩
    | some x =>
      obtain ⟨s', d', r'⟩ := x
      have HE := Hid.intro hE
      clear hE
      go_wp2_with (go_at_call 80; refine (tellCommitted_n b lo up _ ss dr rc _ hn HR.out HLO.out HC.out.2.2.2.1 HC.out.1).mono ?_; rintro r w2 ⟨hyes, _, hb⟩; obtain ⟨rfl, hc⟩ := hyes _ HE.out; have HB := Hid.intro (HC.out.2.2.1.trans hb); have HX := Hid.intro hc; clear hyes hb hc)
      first | (go_end0; exact StP.yes (by rw [HS.out]; exact HE.out) HX.out HB.out) | exact bodyPost_ret (v := .tuple #[]) (by simp [results, Tryd.results69]) rfl (StP.yes (by rw [HS.out]; exact HE.out) HX.out HB.out)
  by_cases hk4 : k = 4
  · subst hk4
    have HS : Hid (stC ss dr rc 4 i j = abE ss dr rc) := Hid.intro (by unfold stC; rw [if_neg (by decide), if_pos rfl]; rfl)
    have hs3 : True := trivial
    have s0 := (HC.out.2.1).cell 0 rfl; have s1 := (HC.out.2.1).cell 1 rfl; have s2 := (HC.out.2.1).cell 2 rfl; have sz := (HC.out.2.1).2
    cases hE : abE ss dr rc with
    | none =>
      have HE := Hid.intro hE
      clear hE
      go_wp2_with (go_at_call 81; refine (abortCommit_n b lo up _ ss dr rc _ hn HR.out HLO.out HC.out.2.2.2.1 HC.out.1).mono ?_; rintro r w2 ⟨_, hno, hb⟩; obtain ⟨p, rfl⟩ := hno HE.out; have HB := Hid.intro (HC.out.2.2.1.trans hb); clear hno hb)
      exact ⟨rfl, StP.no (by rw [HS.out]; exact HE.out) ⟨p, rfl⟩ HB.out⟩
    | some x =>
      obtain ⟨s', d', r'⟩ := x
      have HE := Hid.intro hE
      clear hE
      go_wp2_with (go_at_call 81; refine (abortCommit_n b lo up _ ss dr rc _ hn HR.out HLO.out HC.out.2.2.2.1 HC.out.1).mono ?_; rintro r w2 ⟨hyes, _, hb⟩; obtain ⟨rfl, hc⟩ := hyes _ HE.out; have HB := Hid.intro (HC.out.2.2.1.trans hb); have HX := Hid.intro hc; clear hyes hb hc)
      first | (go_end0; exact StP.yes (by rw [HS.out]; exact HE.out) HX.out HB.out) | exact bodyPost_ret (v := .tuple #[]) (by simp [results, Tryd.results69]) rfl (StP.yes (by rw [HS.out]; exact HE.out) HX.out HB.out)
  by_cases hk5 : k = 5
  · subst hk5
    have HS : Hid (stC ss dr rc 5 i j = stR ss dr rc 5 i j) := Hid.intro (by unfold stC; rw [if_neg (by decide), if_neg (by decide), if_neg (by decide)])
    have hs3 : True := trivial
    have s0 := (HC.out.2.1).cell 0 rfl; have s1 := (HC.out.2.1).cell 1 rfl; have s2 := (HC.out.2.1).cell 2 rfl; have sz := (HC.out.2.1).2
    cases hE : stR ss dr rc 5 i j with
    | none =>
      have HE := Hid.intro hE
      clear hE
      go_wp2_with (go_at_call 82; refine (crashReplica_n b lo up _ ss dr rc 5 i j _ hn HR.out HLO.out HC.out.2.2.2.1 HC.out.1).mono ?_; rintro r w2 ⟨_, hno, hb⟩; obtain ⟨p, rfl⟩ := hno HE.out; have HB := Hid.intro (HC.out.2.2.1.trans hb); clear hno hb)
      exact ⟨rfl, StP.no (by rw [HS.out]; exact HE.out) ⟨p, rfl⟩ HB.out⟩
    | some x =>
      obtain ⟨s', d', r'⟩ := x
      have HE := Hid.intro hE
      clear hE
      go_wp2_with (go_at_call 82; refine (crashReplica_n b lo up _ ss dr rc 5 i j _ hn HR.out HLO.out HC.out.2.2.2.1 HC.out.1).mono ?_; rintro r w2 ⟨hyes, _, hb⟩; obtain ⟨rfl, hc⟩ := hyes _ HE.out; have HB := Hid.intro (HC.out.2.2.1.trans hb); have HX := Hid.intro hc; clear hyes hb hc)
      first | (go_end0; exact StP.yes (by rw [HS.out]; exact HE.out) HX.out HB.out) | exact bodyPost_ret (v := .tuple #[]) (by simp [results, Tryd.results69]) rfl (StP.yes (by rw [HS.out]; exact HE.out) HX.out HB.out)
  by_cases hk6 : k = 6
  · subst hk6
    have HS : Hid (stC ss dr rc 6 i j = rcE ss dr rc) := Hid.intro (by unfold stC; rw [if_neg (by decide), if_neg (by decide), if_pos rfl]; rfl)
    have hs3 : True := trivial
    have s0 := (HC.out.2.1).cell 0 rfl; have s1 := (HC.out.2.1).cell 1 rfl; have s2 := (HC.out.2.1).cell 2 rfl; have sz := (HC.out.2.1).2
    cases hE : rcE ss dr rc with
    | none =>
      have HE := Hid.intro hE
      clear hE
      go_wp2_with (go_at_call 83; refine (recoverCommit_n b lo up _ ss dr rc _ hn HR.out HLO.out HC.out.2.2.2.1 HC.out.1).mono ?_; rintro r w2 ⟨_, hno, hb⟩; obtain ⟨p, rfl⟩ := hno HE.out; have HB := Hid.intro (HC.out.2.2.1.trans hb); clear hno hb)
      exact ⟨rfl, StP.no (by rw [HS.out]; exact HE.out) ⟨p, rfl⟩ HB.out⟩
    | some x =>
      obtain ⟨s', d', r'⟩ := x
      have HE := Hid.intro hE
      clear hE
      go_wp2_with (go_at_call 83; refine (recoverCommit_n b lo up _ ss dr rc _ hn HR.out HLO.out HC.out.2.2.2.1 HC.out.1).mono ?_; rintro r w2 ⟨hyes, _, hb⟩; obtain ⟨rfl, hc⟩ := hyes _ HE.out; have HB := Hid.intro (HC.out.2.2.1.trans hb); have HX := Hid.intro hc; clear hyes hb hc)
      first | (go_end0; exact StP.yes (by rw [HS.out]; exact HE.out) HX.out HB.out) | exact bodyPost_ret (v := .tuple #[]) (by simp [results, Tryd.results69]) rfl (StP.yes (by rw [HS.out]; exact HE.out) HX.out HB.out)
  by_cases hk7 : k = 7
  · subst hk7
    have HS : Hid (stC ss dr rc 7 i j = stR ss dr rc 7 i j) := Hid.intro (by unfold stC; rw [if_neg (by decide), if_neg (by decide), if_neg (by decide)])
    have hs3 : True := trivial
    have s0 := (HC.out.2.1).cell 0 rfl; have s1 := (HC.out.2.1).cell 1 rfl; have s2 := (HC.out.2.1).cell 2 rfl; have sz := (HC.out.2.1).2
    cases hE : stR ss dr rc 7 i j with
    | none =>
      have HE := Hid.intro hE
      clear hE
      go_wp2_with (go_at_call 84; refine (applyDecision_n b lo up _ ss dr rc 7 i j _ hn HR.out HLO.out HC.out.2.2.2.1 HGD.out HC.out.1).mono ?_; rintro r w2 ⟨_, hno, hb⟩; obtain ⟨p, rfl⟩ := hno HE.out; have HB := Hid.intro (HC.out.2.2.1.trans hb); clear hno hb)
      exact ⟨rfl, StP.no (by rw [HS.out]; exact HE.out) ⟨p, rfl⟩ HB.out⟩
    | some x =>
      obtain ⟨s', d', r'⟩ := x
      have HE := Hid.intro hE
      clear hE
      go_wp2_with (go_at_call 84; refine (applyDecision_n b lo up _ ss dr rc 7 i j _ hn HR.out HLO.out HC.out.2.2.2.1 HGD.out HC.out.1).mono ?_; rintro r w2 ⟨hyes, _, hb⟩; obtain ⟨rfl, hc⟩ := hyes _ HE.out; have HB := Hid.intro (HC.out.2.2.1.trans hb); have HX := Hid.intro hc; clear hyes hb hc)
      first | (go_end0; exact StP.yes (by rw [HS.out]; exact HE.out) HX.out HB.out) | exact bodyPost_ret (v := .tuple #[]) (by simp [results, Tryd.results69]) rfl (StP.yes (by rw [HS.out]; exact HE.out) HX.out HB.out)
  have HS : Hid (stC ss dr rc k i j = none) := Hid.intro (by unfold stC; rw [if_neg hk3, if_neg hk4, if_neg hk6]; exact stR_none hk1 hk2 hk5 hk7)
  have q1 : (k == 1) = false := by simpa using hk1
  have q2 : (k == 2) = false := by simpa using hk2
  have q3 : (k == 3) = false := by simpa using hk3
  have q4 : (k == 4) = false := by simpa using hk4
  have q5 : (k == 5) = false := by simpa using hk5
  have q6 : (k == 6) = false := by simpa using hk6
  have q7 : (k == 7) = false := by simpa using hk7
  clear hk1 hk2 hk3 hk4 hk5 hk6 hk7
  have s0 := (HC.out.2.1).cell 0 rfl; have s1 := (HC.out.2.1).cell 1 rfl; have s2 := (HC.out.2.1).cell 2 rfl; have sz := (HC.out.2.1).2
  go_wp2_with (go_at_call 85; first | (refine (must_yes _).mono ?_; rintro r w9 ⟨rfl, hw⟩; have hw := hw.symm; subst hw) | (refine (must_no _ HC.out.2.2.2.1).mono ?_; rintro r w9 ⟨⟨p, rfl⟩, hw⟩; have hw := hw.symm; subst hw))
  exact ⟨rfl, StP.no HS.out ⟨p, rfl⟩ HC.out.2.2.1⟩

end Go.Proofs.YtkpobihpcnoemaaDoor
