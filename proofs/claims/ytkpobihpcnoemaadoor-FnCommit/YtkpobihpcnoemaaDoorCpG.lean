/- Put together of: CpG1, CpG2, CpG3. -/
import Derived.Test.YtkpobihpcnoemaaDoorCpD
/- Commits: tellCommitted. Written by tools/mkCpD.py. -/
namespace Go.Proofs.YtkpobihpcnoemaaDoor
open Go.RowKit
set_option linter.unusedVariables false
set_option linter.unusedSimpArgs false


set_option maxRecDepth 100000 in
set_option maxHeartbeats 4000000 in
theorem tellCommitted_n (b lo up : Nat) (v : Value) (ss : List Shd) (dr rc : Int) (w : World) (hn : ss.length ≤ 1000) (hr : ∀ s ∈ ss, (srs s).length ≤ 1000) (hlo : 0 < lo ∧ lo ≤ b ∧ b < up) (hf : Flt w) (hx : CmX w b lo up v ss dr rc) :
    Calls Tryd.prog 80 #[.pointer (some ⟨b, 0, none⟩)] w (StP lo up b v (tlE ss dr rc) w) := by
  obtain ⟨va, vc, hv⟩ := hx.form
  subst hv
  have HC : Hid (CmX w b lo up (.slice va ss.length vc) ss dr rc ∧ TurnS (Btw lo up) w w ∧ Flt w ∧ lo ≤ w.heap.size) := ⟨hx, TurnS.refl _ _, hf, Nat.le_of_lt (Nat.lt_of_le_of_lt hlo.2.1 hx.1.1.2)⟩
  have HR := Hid.intro hr
  have HLO := Hid.intro hlo
  clear hx hf hr hlo
  go_enter Tryd.func80, Tryd.ntmps80
  by_cases hd : decN dr rc = 0
  case neg =>
    have HE : Hid ((tlE ss dr rc) = none) := Hid.intro (by unfold tlE; rw [if_neg (fun q => hd q.1)])
    have HD := Hid.intro hd
    clear hd
    go_wp2_with fail
    refine (mustBeOpen_n b va ss.length vc dr rc _ HD.out HC.out.2.2.1 HC.out.1.1.1).mono ?_
    rintro r w1 ⟨⟨p, rfl⟩, hb⟩
    have HC := (show Hid (CmX w1 b lo up (.slice va ss.length vc) ss dr rc ∧ TurnS (Btw lo up) w w1 ∧ Flt w1 ∧ lo ≤ w1.heap.size) from ⟨HC.out.1.next hb, HC.out.2.1.next hb, HC.out.2.2.1.next hb HC.out.2.2.1.lt, Nat.le_trans HC.out.2.2.2 hb.size⟩)
    exact ⟨rfl, StP.no HE.out ⟨p, rfl⟩ HC.out.2.1⟩
  have HD := Hid.intro hd
  clear hd
  go_wp2_with fail
  refine (mustBeOpen_y b va ss.length vc dr rc _ HD.out HC.out.1.1.1).mono ?_
  rintro r w1 ⟨rfl, hb⟩
  have HC := (show Hid (CmX w1 b lo up (.slice va ss.length vc) ss dr rc ∧ TurnS (Btw lo up) w w1 ∧ Flt w1 ∧ lo ≤ w1.heap.size) from ⟨HC.out.1.next hb, HC.out.2.1.next hb, HC.out.2.2.1.next hb HC.out.2.2.1.lt, Nat.le_trans HC.out.2.2.2 hb.size⟩)
  clear hb
  have u0 := (HC.out.1.1.1).cell 0 rfl; have u1 := (HC.out.1.1.1).cell 1 rfl; have u2 := (HC.out.1.1.1).cell 2 rfl; have uz := (HC.out.1.1.1).2
  have uf1 := HC.out.1.1.1.frz 1 (by simp)
  have uf2 := HC.out.1.1.1.frz 2 (by simp)
  cases ha : ss.all cpB
  · have HE : Hid (tlE ss dr rc = none) := Hid.intro (by unfold tlE; rw [if_neg (fun q => by rw [ha] at q; cases q.2)])
    have HA := Hid.intro ha
    clear ha
    go_wp2_with (first | (go_at_call 42; refine (areAll_isCopied va vc ss _ (Nat.le_trans hn (by decide)) (fun s hs => Nat.le_trans (HR.out s hs) (by decide)) HC.out.1.lies).mono ?_; rintro r w2 ⟨rfl, hb⟩; rw [HA.out]; have HC := (show Hid (CmX w2 b lo up (.slice va ss.length vc) ss dr rc ∧ TurnS (Btw lo up) w w2 ∧ Flt w2 ∧ lo ≤ w2.heap.size) from ⟨HC.out.1.next hb, HC.out.2.1.next hb, HC.out.2.2.1.next hb HC.out.2.2.1.lt, Nat.le_trans HC.out.2.2.2 hb.size⟩); clear hb; (try clear u0 u1 u2 uz); have u0 := HC.out.1.1.1.cell 0 rfl; have u1 := HC.out.1.1.1.cell 1 rfl; have u2 := HC.out.1.1.1.cell 2 rfl; have uz := HC.out.1.1.1.2; have uf1 := HC.out.1.1.1.frz 1 (by simp); have uf2 := HC.out.1.1.1.frz 2 (by simp)) | (go_at_call 85; first | (refine (must_yes _).mono ?_; rintro r w9 ⟨rfl, hw⟩; have hw := hw.symm; subst hw) | (refine (must_no _ HC.out.2.2.1).mono ?_; rintro r w9 ⟨⟨p, rfl⟩, hw⟩; have hw := hw.symm; subst hw)))
    exact ⟨rfl, StP.no HE.out ⟨p, rfl⟩ HC.out.2.1⟩
  have HE : Hid (tlE ss dr rc = some (ss, 1, rc)) := Hid.intro (by unfold tlE; rw [if_pos ⟨HD.out, ha⟩])
  have HA := Hid.intro ha
  clear ha
  go_wp2_with (first | (go_at_call 42; refine (areAll_isCopied va vc ss _ (Nat.le_trans hn (by decide)) (fun s hs => Nat.le_trans (HR.out s hs) (by decide)) HC.out.1.lies).mono ?_; rintro r w2 ⟨rfl, hb⟩; rw [HA.out]; have HC := (show Hid (CmX w2 b lo up (.slice va ss.length vc) ss dr rc ∧ TurnS (Btw lo up) w w2 ∧ Flt w2 ∧ lo ≤ w2.heap.size) from ⟨HC.out.1.next hb, HC.out.2.1.next hb, HC.out.2.2.1.next hb HC.out.2.2.1.lt, Nat.le_trans HC.out.2.2.2 hb.size⟩); clear hb; (try clear u0 u1 u2 uz); have u0 := HC.out.1.1.1.cell 0 rfl; have u1 := HC.out.1.1.1.cell 1 rfl; have u2 := HC.out.1.1.1.cell 2 rfl; have uz := HC.out.1.1.1.2; have uf1 := HC.out.1.1.1.frz 1 (by simp); have uf2 := HC.out.1.1.1.frz 2 (by simp)) | (go_at_call 85; refine (must_yes _).mono ?_; rintro r w9 ⟨rfl, hw⟩; have hw := hw.symm; subst hw))
  first | (go_end0; exact StP.yes HE.out (HC.out.1.setD 1) (HC.out.2.1.set (p := ⟨b, 1, none⟩) HLO.out.2 _)) | exact bodyPost_ret (v := .tuple #[]) (by simp [results, Tryd.results80]) rfl (StP.yes HE.out (HC.out.1.setD 1) (HC.out.2.1.set (p := ⟨b, 1, none⟩) HLO.out.2 _))

end Go.Proofs.YtkpobihpcnoemaaDoor
/- Commits: abortCommit. Written by tools/mkCpD.py. -/
namespace Go.Proofs.YtkpobihpcnoemaaDoor
open Go.RowKit
set_option linter.unusedVariables false
set_option linter.unusedSimpArgs false


set_option maxRecDepth 100000 in
set_option maxHeartbeats 4000000 in
theorem abortCommit_n (b lo up : Nat) (v : Value) (ss : List Shd) (dr rc : Int) (w : World) (hn : ss.length ≤ 1000) (hr : ∀ s ∈ ss, (srs s).length ≤ 1000) (hlo : 0 < lo ∧ lo ≤ b ∧ b < up) (hf : Flt w) (hx : CmX w b lo up v ss dr rc) :
    Calls Tryd.prog 81 #[.pointer (some ⟨b, 0, none⟩)] w (StP lo up b v (abE ss dr rc) w) := by
  obtain ⟨va, vc, hv⟩ := hx.form
  subst hv
  have HC : Hid (CmX w b lo up (.slice va ss.length vc) ss dr rc ∧ TurnS (Btw lo up) w w ∧ Flt w ∧ lo ≤ w.heap.size) := ⟨hx, TurnS.refl _ _, hf, Nat.le_of_lt (Nat.lt_of_le_of_lt hlo.2.1 hx.1.1.2)⟩
  have HR := Hid.intro hr
  have HLO := Hid.intro hlo
  clear hx hf hr hlo
  go_enter Tryd.func81, Tryd.ntmps81
  by_cases hd : decN dr rc = 0
  case neg =>
    have HE : Hid ((abE ss dr rc) = none) := Hid.intro (by unfold abE; rw [if_neg hd])
    have HD := Hid.intro hd
    clear hd
    go_wp2_with fail
    refine (mustBeOpen_n b va ss.length vc dr rc _ HD.out HC.out.2.2.1 HC.out.1.1.1).mono ?_
    rintro r w1 ⟨⟨p, rfl⟩, hb⟩
    have HC := (show Hid (CmX w1 b lo up (.slice va ss.length vc) ss dr rc ∧ TurnS (Btw lo up) w w1 ∧ Flt w1 ∧ lo ≤ w1.heap.size) from ⟨HC.out.1.next hb, HC.out.2.1.next hb, HC.out.2.2.1.next hb HC.out.2.2.1.lt, Nat.le_trans HC.out.2.2.2 hb.size⟩)
    exact ⟨rfl, StP.no HE.out ⟨p, rfl⟩ HC.out.2.1⟩
  have HD := Hid.intro hd
  clear hd
  go_wp2_with fail
  refine (mustBeOpen_y b va ss.length vc dr rc _ HD.out HC.out.1.1.1).mono ?_
  rintro r w1 ⟨rfl, hb⟩
  have HC := (show Hid (CmX w1 b lo up (.slice va ss.length vc) ss dr rc ∧ TurnS (Btw lo up) w w1 ∧ Flt w1 ∧ lo ≤ w1.heap.size) from ⟨HC.out.1.next hb, HC.out.2.1.next hb, HC.out.2.2.1.next hb HC.out.2.2.1.lt, Nat.le_trans HC.out.2.2.2 hb.size⟩)
  clear hb
  have u0 := (HC.out.1.1.1).cell 0 rfl; have u1 := (HC.out.1.1.1).cell 1 rfl; have u2 := (HC.out.1.1.1).cell 2 rfl; have uz := (HC.out.1.1.1).2
  have uf1 := HC.out.1.1.1.frz 1 (by simp)
  have uf2 := HC.out.1.1.1.frz 2 (by simp)
  have HE : Hid ((abE ss dr rc) = some (ss, 2, rc)) := Hid.intro (by unfold abE; rw [if_pos HD.out])
  go_wp2
  first | (go_end0; exact StP.yes HE.out (HC.out.1.setD 2) (HC.out.2.1.set (p := ⟨b, 1, none⟩) HLO.out.2 _)) | exact bodyPost_ret (v := .tuple #[]) (by simp [results, Tryd.results81]) rfl (StP.yes HE.out (HC.out.1.setD 2) (HC.out.2.1.set (p := ⟨b, 1, none⟩) HLO.out.2 _))

end Go.Proofs.YtkpobihpcnoemaaDoor
/- Commits: recoverCommit. Written by tools/mkCpD.py. -/
namespace Go.Proofs.YtkpobihpcnoemaaDoor
open Go.RowKit
set_option linter.unusedVariables false
set_option linter.unusedSimpArgs false


set_option maxRecDepth 100000 in
set_option maxHeartbeats 4000000 in
theorem recoverCommit_n (b lo up : Nat) (v : Value) (ss : List Shd) (dr rc : Int) (w : World) (hn : ss.length ≤ 1000) (hr : ∀ s ∈ ss, (srs s).length ≤ 1000) (hlo : 0 < lo ∧ lo ≤ b ∧ b < up) (hf : Flt w) (hx : CmX w b lo up v ss dr rc) :
    Calls Tryd.prog 83 #[.pointer (some ⟨b, 0, none⟩)] w (StP lo up b v (rcE ss dr rc) w) := by
  obtain ⟨va, vc, hv⟩ := hx.form
  subst hv
  have HC : Hid (CmX w b lo up (.slice va ss.length vc) ss dr rc ∧ TurnS (Btw lo up) w w ∧ Flt w ∧ lo ≤ w.heap.size) := ⟨hx, TurnS.refl _ _, hf, Nat.le_of_lt (Nat.lt_of_le_of_lt hlo.2.1 hx.1.1.2)⟩
  have HR := Hid.intro hr
  have HLO := Hid.intro hlo
  clear hx hf hr hlo
  go_enter Tryd.func83, Tryd.ntmps83
  have u0 := (HC.out.1.1.1).cell 0 rfl; have u1 := (HC.out.1.1.1).cell 1 rfl; have u2 := (HC.out.1.1.1).cell 2 rfl; have uz := (HC.out.1.1.1).2
  have uf1 := HC.out.1.1.1.frz 1 (by simp)
  have uf2 := HC.out.1.1.1.frz 2 (by simp)
  by_cases hz : rc = 0
  case neg =>
    have HE : Hid (rcE ss dr rc = none) := Hid.intro (by unfold rcE; rw [if_neg hz])
    have hq : (rc == 0) = false := by simpa using hz
    clear hz
    go_wp2_with (go_at_call 85; first | (refine (must_yes _).mono ?_; rintro r w9 ⟨rfl, hw⟩; have hw := hw.symm; subst hw) | (refine (must_no _ HC.out.2.2.1).mono ?_; rintro r w9 ⟨⟨p, rfl⟩, hw⟩; have hw := hw.symm; subst hw))
    exact ⟨rfl, StP.no HE.out ⟨p, rfl⟩ HC.out.2.1⟩
  have HZ := Hid.intro hz
  have hq : (rc == 0) = true := by simpa using hz
  clear hz
  by_cases hd : dr = 0
  case neg =>
    have hq1 : (dr != 0) = true := by simpa using hd
    have HD := Hid.intro hd
    clear hd
    have HE : Hid (rcE ss dr rc = some (ss, dr, dr)) := Hid.intro (by unfold rcE; rw [if_pos HZ.out]; unfold recN; rw [if_neg HD.out])
    go_wp2_with (go_at_call 85; refine (must_yes _).mono ?_; rintro r w9 ⟨rfl, hw⟩; have hw := hw.symm; subst hw)
    first | (go_end0; exact StP.yes HE.out (HC.out.1.setR dr) (HC.out.2.1.set (p := ⟨b, 2, none⟩) HLO.out.2 _)) | exact bodyPost_ret (v := .tuple #[]) (by simp [results, Tryd.results83]) rfl (StP.yes HE.out (HC.out.1.setR dr) (HC.out.2.1.set (p := ⟨b, 2, none⟩) HLO.out.2 _))
  have hq1 : (dr != 0) = false := by simpa using hd
  have HD := Hid.intro hd
  clear hd
  cases ha : ss.all ktB
  · have HA := Hid.intro ha
    clear ha
    have HE : Hid (rcE ss dr rc = some (ss, dr, 2)) := Hid.intro (by unfold rcE; rw [if_pos HZ.out]; unfold recN; rw [if_pos HD.out, HA.out]; rfl)
    go_wp2_with (first | (go_at_call 42; refine (areAll_isKept va vc ss _ (Nat.le_trans hn (by decide)) (fun s hs => Nat.le_trans (HR.out s hs) (by decide)) HC.out.1.lies).mono ?_; rintro r w2 ⟨rfl, hb⟩; rw [HA.out]; have HC := (show Hid (CmX w2 b lo up (.slice va ss.length vc) ss dr rc ∧ TurnS (Btw lo up) w w2 ∧ Flt w2 ∧ lo ≤ w2.heap.size) from ⟨HC.out.1.next hb, HC.out.2.1.next hb, HC.out.2.2.1.next hb HC.out.2.2.1.lt, Nat.le_trans HC.out.2.2.2 hb.size⟩); clear hb; (try clear u0 u1 u2 uz); have u0 := HC.out.1.1.1.cell 0 rfl; have u1 := HC.out.1.1.1.cell 1 rfl; have u2 := HC.out.1.1.1.cell 2 rfl; have uz := HC.out.1.1.1.2; have uf1 := HC.out.1.1.1.frz 1 (by simp); have uf2 := HC.out.1.1.1.frz 2 (by simp)) | (go_at_call 85; refine (must_yes _).mono ?_; rintro r w9 ⟨rfl, hw⟩; have hw := hw.symm; subst hw))
    first | (go_end0; exact StP.yes HE.out (HC.out.1.setR 2) (HC.out.2.1.set (p := ⟨b, 2, none⟩) HLO.out.2 _)) | exact bodyPost_ret (v := .tuple #[]) (by simp [results, Tryd.results83]) rfl (StP.yes HE.out (HC.out.1.setR 2) (HC.out.2.1.set (p := ⟨b, 2, none⟩) HLO.out.2 _))
  have HA := Hid.intro ha
  clear ha
  have HE : Hid (rcE ss dr rc = some (ss, dr, 1)) := Hid.intro (by unfold rcE; rw [if_pos HZ.out]; unfold recN; rw [if_pos HD.out, HA.out]; rfl)
  go_wp2_with (first | (go_at_call 42; refine (areAll_isKept va vc ss _ (Nat.le_trans hn (by decide)) (fun s hs => Nat.le_trans (HR.out s hs) (by decide)) HC.out.1.lies).mono ?_; rintro r w2 ⟨rfl, hb⟩; rw [HA.out]; have HC := (show Hid (CmX w2 b lo up (.slice va ss.length vc) ss dr rc ∧ TurnS (Btw lo up) w w2 ∧ Flt w2 ∧ lo ≤ w2.heap.size) from ⟨HC.out.1.next hb, HC.out.2.1.next hb, HC.out.2.2.1.next hb HC.out.2.2.1.lt, Nat.le_trans HC.out.2.2.2 hb.size⟩); clear hb; (try clear u0 u1 u2 uz); have u0 := HC.out.1.1.1.cell 0 rfl; have u1 := HC.out.1.1.1.cell 1 rfl; have u2 := HC.out.1.1.1.cell 2 rfl; have uz := HC.out.1.1.1.2; have uf1 := HC.out.1.1.1.frz 1 (by simp); have uf2 := HC.out.1.1.1.frz 2 (by simp)) | (go_at_call 85; refine (must_yes _).mono ?_; rintro r w9 ⟨rfl, hw⟩; have hw := hw.symm; subst hw))
  first | (go_end0; exact StP.yes HE.out (HC.out.1.setR 1) (HC.out.2.1.set (p := ⟨b, 2, none⟩) HLO.out.2 _)) | exact bodyPost_ret (v := .tuple #[]) (by simp [results, Tryd.results83]) rfl (StP.yes HE.out (HC.out.1.setR 1) (HC.out.2.1.set (p := ⟨b, 2, none⟩) HLO.out.2 _))

end Go.Proofs.YtkpobihpcnoemaaDoor
