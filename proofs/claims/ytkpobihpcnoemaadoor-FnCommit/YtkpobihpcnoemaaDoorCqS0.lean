/- Commits: spec.l15Step, the driver's steps. Written by tools/mkCqS.py. -/
import Derived.Test.YtkpobihpcnoemaaDoorCqS
namespace Go.Proofs.YtkpobihpcnoemaaDoor
open Go.RowKit
set_option linter.unusedVariables false
set_option linter.unusedSimpArgs false


set_option maxRecDepth 100000 in
set_option maxHeartbeats 4000000 in
theorem tell5_o (lo up : Nat) (v : Value) (ss : List Shd) (i j : Int) (w : World) (hn : ss.length ≤ 1000) (hr : ∀ s ∈ ss, (srs s).length ≤ 1000) (hx : LsU w lo up v ss) :
    Calls Tryd.prog 38 #[.agg #[v, .int .i64 0, .int .i64 0], .agg #[.int .i64 3, .int .i64 i, .int .i64 j]] w (L5P lo up v (stC ss 0 0 3 i j) w) := by
  obtain ⟨va, vc, hv⟩ := hx.form
  subst hv
  obtain ⟨w0, hw0⟩ : ∃ x, x = ((w.alloc (.cells #[.slice va ss.length vc, .int .i64 0, .int .i64 0] 29)).alloc (.cells #[.int .i64 3, .int .i64 i, .int .i64 j] 48)).alloc (.cells #[.slice none 0 0, .int .i64 0, .int .i64 0] 29) := ⟨_, rfl⟩
  have HC : Hid (L5S w lo up (.slice va ss.length vc) ss 0 0 3 i j w0) := Hid.intro (hw0 ▸ L5S.start hx _ _ _)
  have HR := Hid.intro hr
  clear hx hr
  go_enter Tryd.func38, Tryd.ntmps38
  go_upto_region 1 with fail
  rw [← hw0]
  clear hw0
  have s0 := (HC.out.2.1).cell 0 rfl; have s1 := (HC.out.2.1).cell 1 rfl; have s2 := (HC.out.2.1).cell 2 rfl; have sz := (HC.out.2.1).2
  have u0 := (HC.out.1.1.1).cell 0 rfl; have u1 := (HC.out.1.1.1).cell 1 rfl; have u2 := (HC.out.1.1.1).cell 2 rfl; have uz := (HC.out.1.1.1).2
  have uf1 := HC.out.1.1.1.frz 1 (by simp)
  have uf2 := HC.out.1.1.1.frz 2 (by simp)
  have z0 := (HC.out.2.2.1).cell 0 rfl; have z1 := (HC.out.2.2.1).cell 1 rfl; have z2 := (HC.out.2.2.1).cell 2 rfl; have zz := (HC.out.2.2.1).2
  have zf0 := HC.out.2.2.1.frz 0 (by simp)
  have zf1 := HC.out.2.2.1.frz 1 (by simp)
  have zf2 := HC.out.2.2.1.frz 2 (by simp)
  have zz := HC.out.2.2.1.2
  cases ha : ss.all cpB
  · have HA := Hid.intro ha
    have HE : Hid (stC ss 0 0 3 i j = none) := Hid.intro (by unfold stC; rw [if_pos rfl, if_neg (fun q => by rw [ha] at q; cases q.2)])
    clear ha
    go_wp2_with (go_at_call 61; refine (l15Copies_y va vc ss _ _ _ (Nat.le_trans hn (by decide)) (fun s hs => Nat.le_trans (HR.out s hs) (by decide)) HC.out.1.lies).mono ?_; rintro r w2 ⟨rfl, hb⟩; rw [HA.out]; have HC := Hid.intro (L5S.next HC.out hb); clear hb s0 s1 s2 sz u0 u1 u2 uz uf1 uf2 z0 z1 z2 zf0 zf1 zf2 zz; have s0 := HC.out.2.1.cell 0 rfl; have s1 := HC.out.2.1.cell 1 rfl; have s2 := HC.out.2.1.cell 2 rfl; have u0 := HC.out.1.1.1.cell 0 rfl; have u1 := HC.out.1.1.1.cell 1 rfl; have u2 := HC.out.1.1.1.cell 2 rfl; have z0 := HC.out.2.2.1.cell 0 rfl; have z1 := HC.out.2.2.1.cell 1 rfl; have z2 := HC.out.2.2.1.cell 2 rfl; have sz := HC.out.2.1.2; have uz := HC.out.1.1.1.2; have zz := HC.out.2.2.1.2; have uf1 := HC.out.1.1.1.frz 1 (by simp); have uf2 := HC.out.1.1.1.frz 2 (by simp); have zf0 := HC.out.2.2.1.frz 0 (by simp); have zf1 := HC.out.2.2.1.frz 1 (by simp); have zf2 := HC.out.2.2.1.frz 2 (by simp))
    refine bodyPost_ret (v := .tuple #[.agg #[.slice va ss.length vc, .int .i64 0, .int .i64 0], .bool false]) (by simp [results, Tryd.results38, go_sem, *]) rfl ?_
    exact L5P.no HE.out HC.out.2.2.2.1 (by omega)
  · have HA := Hid.intro ha
    have HE : Hid (stC ss 0 0 3 i j = some (ss, 1, 0)) := Hid.intro (by unfold stC; rw [if_pos rfl, if_pos ⟨decN_zero.2 ⟨rfl, rfl⟩, ha⟩])
    clear ha
    go_wp2_with (go_at_call 61; refine (l15Copies_y va vc ss _ _ _ (Nat.le_trans hn (by decide)) (fun s hs => Nat.le_trans (HR.out s hs) (by decide)) HC.out.1.lies).mono ?_; rintro r w2 ⟨rfl, hb⟩; rw [HA.out]; have HC := Hid.intro (L5S.next HC.out hb); clear hb s0 s1 s2 sz u0 u1 u2 uz uf1 uf2 z0 z1 z2 zf0 zf1 zf2 zz; have s0 := HC.out.2.1.cell 0 rfl; have s1 := HC.out.2.1.cell 1 rfl; have s2 := HC.out.2.1.cell 2 rfl; have u0 := HC.out.1.1.1.cell 0 rfl; have u1 := HC.out.1.1.1.cell 1 rfl; have u2 := HC.out.1.1.1.cell 2 rfl; have z0 := HC.out.2.2.1.cell 0 rfl; have z1 := HC.out.2.2.1.cell 1 rfl; have z2 := HC.out.2.2.1.cell 2 rfl; have sz := HC.out.2.1.2; have uz := HC.out.1.1.1.2; have zz := HC.out.2.2.1.2; have uf1 := HC.out.1.1.1.frz 1 (by simp); have uf2 := HC.out.1.1.1.frz 2 (by simp); have zf0 := HC.out.2.2.1.frz 0 (by simp); have zf1 := HC.out.2.2.1.frz 1 (by simp); have zf2 := HC.out.2.2.1.frz 2 (by simp))
    refine bodyPost_ret (v := .tuple #[.agg #[.slice va ss.length vc, .int .i64 1, .int .i64 0], .bool true]) (by simp [results, Tryd.results38, go_sem, *]) rfl ?_
    exact L5P.yes HE.out (HC.out.1.setD 1) (turn_far HC.out.2.2.2.1 (Nat.le_refl _) _ _) (by omega) HC.out.2.2.2.2.1

set_option maxRecDepth 100000 in
set_option maxHeartbeats 4000000 in
theorem tell5_d (lo up : Nat) (v : Value) (ss : List Shd) (dr rc i j : Int) (w : World) (hn : ss.length ≤ 1000) (hr : ∀ s ∈ ss, (srs s).length ≤ 1000) (hd : ¬ dr = 0) (hx : LsU w lo up v ss) :
    Calls Tryd.prog 38 #[.agg #[v, .int .i64 dr, .int .i64 rc], .agg #[.int .i64 3, .int .i64 i, .int .i64 j]] w (L5P lo up v (stC ss dr rc 3 i j) w) := by
  obtain ⟨va, vc, hv⟩ := hx.form
  subst hv
  obtain ⟨w0, hw0⟩ : ∃ x, x = ((w.alloc (.cells #[.slice va ss.length vc, .int .i64 dr, .int .i64 rc] 29)).alloc (.cells #[.int .i64 3, .int .i64 i, .int .i64 j] 48)).alloc (.cells #[.slice none 0 0, .int .i64 0, .int .i64 0] 29) := ⟨_, rfl⟩
  have HC : Hid (L5S w lo up (.slice va ss.length vc) ss dr rc 3 i j w0) := Hid.intro (hw0 ▸ L5S.start hx _ _ _)
  have HR := Hid.intro hr
  clear hx hr
  have hqd : (dr == 0) = false := by simpa using hd
  have hqn : (dr != 0) = true := by simpa using hd
  have HOP : Hid (¬ decN dr rc = 0) := Hid.intro (fun q => hd (decN_zero.1 q).1)
  have HD0 : Hid (¬ dr = 0) := Hid.intro hd
  clear hd
  go_enter Tryd.func38, Tryd.ntmps38
  go_upto_region 1 with fail
  rw [← hw0]
  clear hw0
  have s0 := (HC.out.2.1).cell 0 rfl; have s1 := (HC.out.2.1).cell 1 rfl; have s2 := (HC.out.2.1).cell 2 rfl; have sz := (HC.out.2.1).2
  have u0 := (HC.out.1.1.1).cell 0 rfl; have u1 := (HC.out.1.1.1).cell 1 rfl; have u2 := (HC.out.1.1.1).cell 2 rfl; have uz := (HC.out.1.1.1).2
  have uf1 := HC.out.1.1.1.frz 1 (by simp)
  have uf2 := HC.out.1.1.1.frz 2 (by simp)
  have z0 := (HC.out.2.2.1).cell 0 rfl; have z1 := (HC.out.2.2.1).cell 1 rfl; have z2 := (HC.out.2.2.1).cell 2 rfl; have zz := (HC.out.2.2.1).2
  have zf0 := HC.out.2.2.1.frz 0 (by simp)
  have zf1 := HC.out.2.2.1.frz 1 (by simp)
  have zf2 := HC.out.2.2.1.frz 2 (by simp)
  have zz := HC.out.2.2.1.2
  have HE : Hid (stC ss dr rc 3 i j = none) := Hid.intro (by unfold stC; rw [if_pos rfl, if_neg (fun q => HOP.out q.1)])
  go_wp2
  refine bodyPost_ret (v := .tuple #[.agg #[.slice va ss.length vc, .int .i64 dr, .int .i64 rc], .bool false]) (by simp [results, Tryd.results38, go_sem, *]) rfl ?_
  exact L5P.no HE.out HC.out.2.2.2.1 (by omega)

set_option maxRecDepth 100000 in
set_option maxHeartbeats 4000000 in
theorem tell5_r (lo up : Nat) (v : Value) (ss : List Shd) (rc i j : Int) (w : World) (hn : ss.length ≤ 1000) (hr : ∀ s ∈ ss, (srs s).length ≤ 1000) (hd : ¬ rc = 0) (hx : LsU w lo up v ss) :
    Calls Tryd.prog 38 #[.agg #[v, .int .i64 0, .int .i64 rc], .agg #[.int .i64 3, .int .i64 i, .int .i64 j]] w (L5P lo up v (stC ss 0 rc 3 i j) w) := by
  obtain ⟨va, vc, hv⟩ := hx.form
  subst hv
  obtain ⟨w0, hw0⟩ : ∃ x, x = ((w.alloc (.cells #[.slice va ss.length vc, .int .i64 0, .int .i64 rc] 29)).alloc (.cells #[.int .i64 3, .int .i64 i, .int .i64 j] 48)).alloc (.cells #[.slice none 0 0, .int .i64 0, .int .i64 0] 29) := ⟨_, rfl⟩
  have HC : Hid (L5S w lo up (.slice va ss.length vc) ss 0 rc 3 i j w0) := Hid.intro (hw0 ▸ L5S.start hx _ _ _)
  have HR := Hid.intro hr
  clear hx hr
  have hqd : (rc == 0) = false := by simpa using hd
  have hqn : (rc != 0) = true := by simpa using hd
  have HOP : Hid (¬ decN 0 rc = 0) := Hid.intro (fun q => hd (decN_zero.1 q).2)
  have HD0 : Hid (¬ rc = 0) := Hid.intro hd
  clear hd
  go_enter Tryd.func38, Tryd.ntmps38
  go_upto_region 1 with fail
  rw [← hw0]
  clear hw0
  have s0 := (HC.out.2.1).cell 0 rfl; have s1 := (HC.out.2.1).cell 1 rfl; have s2 := (HC.out.2.1).cell 2 rfl; have sz := (HC.out.2.1).2
  have u0 := (HC.out.1.1.1).cell 0 rfl; have u1 := (HC.out.1.1.1).cell 1 rfl; have u2 := (HC.out.1.1.1).cell 2 rfl; have uz := (HC.out.1.1.1).2
  have uf1 := HC.out.1.1.1.frz 1 (by simp)
  have uf2 := HC.out.1.1.1.frz 2 (by simp)
  have z0 := (HC.out.2.2.1).cell 0 rfl; have z1 := (HC.out.2.2.1).cell 1 rfl; have z2 := (HC.out.2.2.1).cell 2 rfl; have zz := (HC.out.2.2.1).2
  have zf0 := HC.out.2.2.1.frz 0 (by simp)
  have zf1 := HC.out.2.2.1.frz 1 (by simp)
  have zf2 := HC.out.2.2.1.frz 2 (by simp)
  have zz := HC.out.2.2.1.2
  have HE : Hid (stC ss 0 rc 3 i j = none) := Hid.intro (by unfold stC; rw [if_pos rfl, if_neg (fun q => HOP.out q.1)])
  go_wp2
  refine bodyPost_ret (v := .tuple #[.agg #[.slice va ss.length vc, .int .i64 0, .int .i64 rc], .bool false]) (by simp [results, Tryd.results38, go_sem, *]) rfl ?_
  exact L5P.no HE.out HC.out.2.2.2.1 (by omega)

set_option maxRecDepth 100000 in
set_option maxHeartbeats 4000000 in
theorem abort5_o (lo up : Nat) (v : Value) (ss : List Shd) (i j : Int) (w : World) (hn : ss.length ≤ 1000) (hr : ∀ s ∈ ss, (srs s).length ≤ 1000) (hx : LsU w lo up v ss) :
    Calls Tryd.prog 38 #[.agg #[v, .int .i64 0, .int .i64 0], .agg #[.int .i64 4, .int .i64 i, .int .i64 j]] w (L5P lo up v (stC ss 0 0 4 i j) w) := by
  obtain ⟨va, vc, hv⟩ := hx.form
  subst hv
  obtain ⟨w0, hw0⟩ : ∃ x, x = ((w.alloc (.cells #[.slice va ss.length vc, .int .i64 0, .int .i64 0] 29)).alloc (.cells #[.int .i64 4, .int .i64 i, .int .i64 j] 48)).alloc (.cells #[.slice none 0 0, .int .i64 0, .int .i64 0] 29) := ⟨_, rfl⟩
  have HC : Hid (L5S w lo up (.slice va ss.length vc) ss 0 0 4 i j w0) := Hid.intro (hw0 ▸ L5S.start hx _ _ _)
  have HR := Hid.intro hr
  clear hx hr
  go_enter Tryd.func38, Tryd.ntmps38
  go_upto_region 1 with fail
  rw [← hw0]
  clear hw0
  have s0 := (HC.out.2.1).cell 0 rfl; have s1 := (HC.out.2.1).cell 1 rfl; have s2 := (HC.out.2.1).cell 2 rfl; have sz := (HC.out.2.1).2
  have u0 := (HC.out.1.1.1).cell 0 rfl; have u1 := (HC.out.1.1.1).cell 1 rfl; have u2 := (HC.out.1.1.1).cell 2 rfl; have uz := (HC.out.1.1.1).2
  have uf1 := HC.out.1.1.1.frz 1 (by simp)
  have uf2 := HC.out.1.1.1.frz 2 (by simp)
  have z0 := (HC.out.2.2.1).cell 0 rfl; have z1 := (HC.out.2.2.1).cell 1 rfl; have z2 := (HC.out.2.2.1).cell 2 rfl; have zz := (HC.out.2.2.1).2
  have zf0 := HC.out.2.2.1.frz 0 (by simp)
  have zf1 := HC.out.2.2.1.frz 1 (by simp)
  have zf2 := HC.out.2.2.1.frz 2 (by simp)
  have zz := HC.out.2.2.1.2
  have HE : Hid (stC ss 0 0 4 i j = some (ss, 2, 0)) := Hid.intro (by unfold stC; rw [if_neg (by decide), if_pos rfl, if_pos (decN_zero.2 ⟨rfl, rfl⟩)])
  go_wp2
  refine bodyPost_ret (v := .tuple #[.agg #[.slice va ss.length vc, .int .i64 2, .int .i64 0], .bool true]) (by simp [results, Tryd.results38, go_sem, *]) rfl ?_
  exact L5P.yes HE.out (HC.out.1.setD 2) (turn_far HC.out.2.2.2.1 (Nat.le_refl _) _ _) (by omega) HC.out.2.2.2.2.1

set_option maxRecDepth 100000 in
set_option maxHeartbeats 4000000 in
theorem abort5_d (lo up : Nat) (v : Value) (ss : List Shd) (dr rc i j : Int) (w : World) (hn : ss.length ≤ 1000) (hr : ∀ s ∈ ss, (srs s).length ≤ 1000) (hd : ¬ dr = 0) (hx : LsU w lo up v ss) :
    Calls Tryd.prog 38 #[.agg #[v, .int .i64 dr, .int .i64 rc], .agg #[.int .i64 4, .int .i64 i, .int .i64 j]] w (L5P lo up v (stC ss dr rc 4 i j) w) := by
  obtain ⟨va, vc, hv⟩ := hx.form
  subst hv
  obtain ⟨w0, hw0⟩ : ∃ x, x = ((w.alloc (.cells #[.slice va ss.length vc, .int .i64 dr, .int .i64 rc] 29)).alloc (.cells #[.int .i64 4, .int .i64 i, .int .i64 j] 48)).alloc (.cells #[.slice none 0 0, .int .i64 0, .int .i64 0] 29) := ⟨_, rfl⟩
  have HC : Hid (L5S w lo up (.slice va ss.length vc) ss dr rc 4 i j w0) := Hid.intro (hw0 ▸ L5S.start hx _ _ _)
  have HR := Hid.intro hr
  clear hx hr
  have hqd : (dr == 0) = false := by simpa using hd
  have hqn : (dr != 0) = true := by simpa using hd
  have HOP : Hid (¬ decN dr rc = 0) := Hid.intro (fun q => hd (decN_zero.1 q).1)
  have HD0 : Hid (¬ dr = 0) := Hid.intro hd
  clear hd
  go_enter Tryd.func38, Tryd.ntmps38
  go_upto_region 1 with fail
  rw [← hw0]
  clear hw0
  have s0 := (HC.out.2.1).cell 0 rfl; have s1 := (HC.out.2.1).cell 1 rfl; have s2 := (HC.out.2.1).cell 2 rfl; have sz := (HC.out.2.1).2
  have u0 := (HC.out.1.1.1).cell 0 rfl; have u1 := (HC.out.1.1.1).cell 1 rfl; have u2 := (HC.out.1.1.1).cell 2 rfl; have uz := (HC.out.1.1.1).2
  have uf1 := HC.out.1.1.1.frz 1 (by simp)
  have uf2 := HC.out.1.1.1.frz 2 (by simp)
  have z0 := (HC.out.2.2.1).cell 0 rfl; have z1 := (HC.out.2.2.1).cell 1 rfl; have z2 := (HC.out.2.2.1).cell 2 rfl; have zz := (HC.out.2.2.1).2
  have zf0 := HC.out.2.2.1.frz 0 (by simp)
  have zf1 := HC.out.2.2.1.frz 1 (by simp)
  have zf2 := HC.out.2.2.1.frz 2 (by simp)
  have zz := HC.out.2.2.1.2
  have HE : Hid (stC ss dr rc 4 i j = none) := Hid.intro (by unfold stC; rw [if_neg (by decide), if_pos rfl, if_neg HOP.out])
  go_wp2
  refine bodyPost_ret (v := .tuple #[.agg #[.slice va ss.length vc, .int .i64 2, .int .i64 rc], .bool false]) (by simp [results, Tryd.results38, go_sem, *]) rfl ?_
  exact L5P.no HE.out (turn_far HC.out.2.2.2.1 (Nat.le_refl _) _ _) (by omega)

set_option maxRecDepth 100000 in
set_option maxHeartbeats 4000000 in
theorem abort5_r (lo up : Nat) (v : Value) (ss : List Shd) (rc i j : Int) (w : World) (hn : ss.length ≤ 1000) (hr : ∀ s ∈ ss, (srs s).length ≤ 1000) (hd : ¬ rc = 0) (hx : LsU w lo up v ss) :
    Calls Tryd.prog 38 #[.agg #[v, .int .i64 0, .int .i64 rc], .agg #[.int .i64 4, .int .i64 i, .int .i64 j]] w (L5P lo up v (stC ss 0 rc 4 i j) w) := by
  obtain ⟨va, vc, hv⟩ := hx.form
  subst hv
  obtain ⟨w0, hw0⟩ : ∃ x, x = ((w.alloc (.cells #[.slice va ss.length vc, .int .i64 0, .int .i64 rc] 29)).alloc (.cells #[.int .i64 4, .int .i64 i, .int .i64 j] 48)).alloc (.cells #[.slice none 0 0, .int .i64 0, .int .i64 0] 29) := ⟨_, rfl⟩
  have HC : Hid (L5S w lo up (.slice va ss.length vc) ss 0 rc 4 i j w0) := Hid.intro (hw0 ▸ L5S.start hx _ _ _)
  have HR := Hid.intro hr
  clear hx hr
  have hqd : (rc == 0) = false := by simpa using hd
  have hqn : (rc != 0) = true := by simpa using hd
  have HOP : Hid (¬ decN 0 rc = 0) := Hid.intro (fun q => hd (decN_zero.1 q).2)
  have HD0 : Hid (¬ rc = 0) := Hid.intro hd
  clear hd
  go_enter Tryd.func38, Tryd.ntmps38
  go_upto_region 1 with fail
  rw [← hw0]
  clear hw0
  have s0 := (HC.out.2.1).cell 0 rfl; have s1 := (HC.out.2.1).cell 1 rfl; have s2 := (HC.out.2.1).cell 2 rfl; have sz := (HC.out.2.1).2
  have u0 := (HC.out.1.1.1).cell 0 rfl; have u1 := (HC.out.1.1.1).cell 1 rfl; have u2 := (HC.out.1.1.1).cell 2 rfl; have uz := (HC.out.1.1.1).2
  have uf1 := HC.out.1.1.1.frz 1 (by simp)
  have uf2 := HC.out.1.1.1.frz 2 (by simp)
  have z0 := (HC.out.2.2.1).cell 0 rfl; have z1 := (HC.out.2.2.1).cell 1 rfl; have z2 := (HC.out.2.2.1).cell 2 rfl; have zz := (HC.out.2.2.1).2
  have zf0 := HC.out.2.2.1.frz 0 (by simp)
  have zf1 := HC.out.2.2.1.frz 1 (by simp)
  have zf2 := HC.out.2.2.1.frz 2 (by simp)
  have zz := HC.out.2.2.1.2
  have HE : Hid (stC ss 0 rc 4 i j = none) := Hid.intro (by unfold stC; rw [if_neg (by decide), if_pos rfl, if_neg HOP.out])
  go_wp2
  refine bodyPost_ret (v := .tuple #[.agg #[.slice va ss.length vc, .int .i64 2, .int .i64 rc], .bool false]) (by simp [results, Tryd.results38, go_sem, *]) rfl ?_
  exact L5P.no HE.out (turn_far HC.out.2.2.2.1 (Nat.le_refl _) _ _) (by omega)

set_option maxRecDepth 100000 in
set_option maxHeartbeats 4000000 in
theorem recover5_o (lo up : Nat) (v : Value) (ss : List Shd) (i j : Int) (w : World) (hn : ss.length ≤ 1000) (hr : ∀ s ∈ ss, (srs s).length ≤ 1000) (hx : LsU w lo up v ss) :
    Calls Tryd.prog 38 #[.agg #[v, .int .i64 0, .int .i64 0], .agg #[.int .i64 6, .int .i64 i, .int .i64 j]] w (L5P lo up v (stC ss 0 0 6 i j) w) := by
  obtain ⟨va, vc, hv⟩ := hx.form
  subst hv
  obtain ⟨w0, hw0⟩ : ∃ x, x = ((w.alloc (.cells #[.slice va ss.length vc, .int .i64 0, .int .i64 0] 29)).alloc (.cells #[.int .i64 6, .int .i64 i, .int .i64 j] 48)).alloc (.cells #[.slice none 0 0, .int .i64 0, .int .i64 0] 29) := ⟨_, rfl⟩
  have HC : Hid (L5S w lo up (.slice va ss.length vc) ss 0 0 6 i j w0) := Hid.intro (hw0 ▸ L5S.start hx _ _ _)
  have HR := Hid.intro hr
  clear hx hr
  go_enter Tryd.func38, Tryd.ntmps38
  go_upto_region 1 with fail
  rw [← hw0]
  clear hw0
  have s0 := (HC.out.2.1).cell 0 rfl; have s1 := (HC.out.2.1).cell 1 rfl; have s2 := (HC.out.2.1).cell 2 rfl; have sz := (HC.out.2.1).2
  have u0 := (HC.out.1.1.1).cell 0 rfl; have u1 := (HC.out.1.1.1).cell 1 rfl; have u2 := (HC.out.1.1.1).cell 2 rfl; have uz := (HC.out.1.1.1).2
  have uf1 := HC.out.1.1.1.frz 1 (by simp)
  have uf2 := HC.out.1.1.1.frz 2 (by simp)
  have z0 := (HC.out.2.2.1).cell 0 rfl; have z1 := (HC.out.2.2.1).cell 1 rfl; have z2 := (HC.out.2.2.1).cell 2 rfl; have zz := (HC.out.2.2.1).2
  have zf0 := HC.out.2.2.1.frz 0 (by simp)
  have zf1 := HC.out.2.2.1.frz 1 (by simp)
  have zf2 := HC.out.2.2.1.frz 2 (by simp)
  have zz := HC.out.2.2.1.2
  cases ha : ss.all ktB
  · have HA := Hid.intro ha
    have HE : Hid (stC ss 0 0 6 i j = some (ss, 0, 2)) := Hid.intro (by unfold stC; rw [if_neg (by decide), if_neg (by decide), if_pos rfl, if_pos rfl]; unfold recN; rw [if_pos rfl, ha]; rfl)
    clear ha
    go_wp2_with (go_at_call 61; refine (l15Copies_n va vc ss _ _ _ (Nat.le_trans hn (by decide)) (fun s hs => Nat.le_trans (HR.out s hs) (by decide)) HC.out.1.lies).mono ?_; rintro r w2 ⟨rfl, hb⟩; rw [HA.out]; have HC := Hid.intro (L5S.next HC.out hb); clear hb s0 s1 s2 sz u0 u1 u2 uz uf1 uf2 z0 z1 z2 zf0 zf1 zf2 zz; have s0 := HC.out.2.1.cell 0 rfl; have s1 := HC.out.2.1.cell 1 rfl; have s2 := HC.out.2.1.cell 2 rfl; have u0 := HC.out.1.1.1.cell 0 rfl; have u1 := HC.out.1.1.1.cell 1 rfl; have u2 := HC.out.1.1.1.cell 2 rfl; have z0 := HC.out.2.2.1.cell 0 rfl; have z1 := HC.out.2.2.1.cell 1 rfl; have z2 := HC.out.2.2.1.cell 2 rfl; have sz := HC.out.2.1.2; have uz := HC.out.1.1.1.2; have zz := HC.out.2.2.1.2; have uf1 := HC.out.1.1.1.frz 1 (by simp); have uf2 := HC.out.1.1.1.frz 2 (by simp); have zf0 := HC.out.2.2.1.frz 0 (by simp); have zf1 := HC.out.2.2.1.frz 1 (by simp); have zf2 := HC.out.2.2.1.frz 2 (by simp))
    refine bodyPost_ret (v := .tuple #[.agg #[.slice va ss.length vc, .int .i64 0, .int .i64 2], .bool true]) (by simp [results, Tryd.results38, go_sem, *]) rfl ?_
    exact L5P.yes HE.out (HC.out.1.setR 2) (turn_far HC.out.2.2.2.1 (Nat.le_refl _) _ _) (by omega) HC.out.2.2.2.2.1
  · have HA := Hid.intro ha
    have HE : Hid (stC ss 0 0 6 i j = some (ss, 0, 1)) := Hid.intro (by unfold stC; rw [if_neg (by decide), if_neg (by decide), if_pos rfl, if_pos rfl]; unfold recN; rw [if_pos rfl, ha]; rfl)
    clear ha
    go_wp2_with (go_at_call 61; refine (l15Copies_n va vc ss _ _ _ (Nat.le_trans hn (by decide)) (fun s hs => Nat.le_trans (HR.out s hs) (by decide)) HC.out.1.lies).mono ?_; rintro r w2 ⟨rfl, hb⟩; rw [HA.out]; have HC := Hid.intro (L5S.next HC.out hb); clear hb s0 s1 s2 sz u0 u1 u2 uz uf1 uf2 z0 z1 z2 zf0 zf1 zf2 zz; have s0 := HC.out.2.1.cell 0 rfl; have s1 := HC.out.2.1.cell 1 rfl; have s2 := HC.out.2.1.cell 2 rfl; have u0 := HC.out.1.1.1.cell 0 rfl; have u1 := HC.out.1.1.1.cell 1 rfl; have u2 := HC.out.1.1.1.cell 2 rfl; have z0 := HC.out.2.2.1.cell 0 rfl; have z1 := HC.out.2.2.1.cell 1 rfl; have z2 := HC.out.2.2.1.cell 2 rfl; have sz := HC.out.2.1.2; have uz := HC.out.1.1.1.2; have zz := HC.out.2.2.1.2; have uf1 := HC.out.1.1.1.frz 1 (by simp); have uf2 := HC.out.1.1.1.frz 2 (by simp); have zf0 := HC.out.2.2.1.frz 0 (by simp); have zf1 := HC.out.2.2.1.frz 1 (by simp); have zf2 := HC.out.2.2.1.frz 2 (by simp))
    refine bodyPost_ret (v := .tuple #[.agg #[.slice va ss.length vc, .int .i64 0, .int .i64 1], .bool true]) (by simp [results, Tryd.results38, go_sem, *]) rfl ?_
    exact L5P.yes HE.out (HC.out.1.setR 1) (turn_far HC.out.2.2.2.1 (Nat.le_refl _) _ _) (by omega) HC.out.2.2.2.2.1

set_option maxRecDepth 100000 in
set_option maxHeartbeats 4000000 in
theorem recover5_r (lo up : Nat) (v : Value) (ss : List Shd) (rc i j : Int) (w : World) (hn : ss.length ≤ 1000) (hr : ∀ s ∈ ss, (srs s).length ≤ 1000) (hd : ¬ rc = 0) (hx : LsU w lo up v ss) :
    Calls Tryd.prog 38 #[.agg #[v, .int .i64 0, .int .i64 rc], .agg #[.int .i64 6, .int .i64 i, .int .i64 j]] w (L5P lo up v (stC ss 0 rc 6 i j) w) := by
  obtain ⟨va, vc, hv⟩ := hx.form
  subst hv
  obtain ⟨w0, hw0⟩ : ∃ x, x = ((w.alloc (.cells #[.slice va ss.length vc, .int .i64 0, .int .i64 rc] 29)).alloc (.cells #[.int .i64 6, .int .i64 i, .int .i64 j] 48)).alloc (.cells #[.slice none 0 0, .int .i64 0, .int .i64 0] 29) := ⟨_, rfl⟩
  have HC : Hid (L5S w lo up (.slice va ss.length vc) ss 0 rc 6 i j w0) := Hid.intro (hw0 ▸ L5S.start hx _ _ _)
  have HR := Hid.intro hr
  clear hx hr
  have hqd : (rc == 0) = false := by simpa using hd
  have hqn : (rc != 0) = true := by simpa using hd
  have HOP : Hid (¬ decN 0 rc = 0) := Hid.intro (fun q => hd (decN_zero.1 q).2)
  have HD0 : Hid (¬ rc = 0) := Hid.intro hd
  clear hd
  go_enter Tryd.func38, Tryd.ntmps38
  go_upto_region 1 with fail
  rw [← hw0]
  clear hw0
  have s0 := (HC.out.2.1).cell 0 rfl; have s1 := (HC.out.2.1).cell 1 rfl; have s2 := (HC.out.2.1).cell 2 rfl; have sz := (HC.out.2.1).2
  have u0 := (HC.out.1.1.1).cell 0 rfl; have u1 := (HC.out.1.1.1).cell 1 rfl; have u2 := (HC.out.1.1.1).cell 2 rfl; have uz := (HC.out.1.1.1).2
  have uf1 := HC.out.1.1.1.frz 1 (by simp)
  have uf2 := HC.out.1.1.1.frz 2 (by simp)
  have z0 := (HC.out.2.2.1).cell 0 rfl; have z1 := (HC.out.2.2.1).cell 1 rfl; have z2 := (HC.out.2.2.1).cell 2 rfl; have zz := (HC.out.2.2.1).2
  have zf0 := HC.out.2.2.1.frz 0 (by simp)
  have zf1 := HC.out.2.2.1.frz 1 (by simp)
  have zf2 := HC.out.2.2.1.frz 2 (by simp)
  have zz := HC.out.2.2.1.2
  have HE : Hid (stC ss 0 rc 6 i j = none) := Hid.intro (by unfold stC; rw [if_neg (by decide), if_neg (by decide), if_pos rfl, if_neg HD0.out])
  go_wp2
  refine bodyPost_ret (v := .tuple #[.agg #[.slice va ss.length vc, .int .i64 0, .int .i64 rc], .bool false]) (by simp [results, Tryd.results38, go_sem, *]) rfl ?_
  exact L5P.no HE.out HC.out.2.2.2.1 (by omega)

set_option maxRecDepth 100000 in
set_option maxHeartbeats 4000000 in
theorem recover5_d (lo up : Nat) (v : Value) (ss : List Shd) (dr rc i j : Int) (w : World) (hn : ss.length ≤ 1000) (hr : ∀ s ∈ ss, (srs s).length ≤ 1000) (hd : ¬ dr = 0) (hx : LsU w lo up v ss) :
    Calls Tryd.prog 38 #[.agg #[v, .int .i64 dr, .int .i64 rc], .agg #[.int .i64 6, .int .i64 i, .int .i64 j]] w (L5P lo up v (stC ss dr rc 6 i j) w) := by
  obtain ⟨va, vc, hv⟩ := hx.form
  subst hv
  obtain ⟨w0, hw0⟩ : ∃ x, x = ((w.alloc (.cells #[.slice va ss.length vc, .int .i64 dr, .int .i64 rc] 29)).alloc (.cells #[.int .i64 6, .int .i64 i, .int .i64 j] 48)).alloc (.cells #[.slice none 0 0, .int .i64 0, .int .i64 0] 29) := ⟨_, rfl⟩
  have HC : Hid (L5S w lo up (.slice va ss.length vc) ss dr rc 6 i j w0) := Hid.intro (hw0 ▸ L5S.start hx _ _ _)
  have HR := Hid.intro hr
  clear hx hr
  have hqd : (dr == 0) = false := by simpa using hd
  have hqn : (dr != 0) = true := by simpa using hd
  have HOP : Hid (¬ decN dr rc = 0) := Hid.intro (fun q => hd (decN_zero.1 q).1)
  have HD0 : Hid (¬ dr = 0) := Hid.intro hd
  clear hd
  go_enter Tryd.func38, Tryd.ntmps38
  go_upto_region 1 with fail
  rw [← hw0]
  clear hw0
  have s0 := (HC.out.2.1).cell 0 rfl; have s1 := (HC.out.2.1).cell 1 rfl; have s2 := (HC.out.2.1).cell 2 rfl; have sz := (HC.out.2.1).2
  have u0 := (HC.out.1.1.1).cell 0 rfl; have u1 := (HC.out.1.1.1).cell 1 rfl; have u2 := (HC.out.1.1.1).cell 2 rfl; have uz := (HC.out.1.1.1).2
  have uf1 := HC.out.1.1.1.frz 1 (by simp)
  have uf2 := HC.out.1.1.1.frz 2 (by simp)
  have z0 := (HC.out.2.2.1).cell 0 rfl; have z1 := (HC.out.2.2.1).cell 1 rfl; have z2 := (HC.out.2.2.1).cell 2 rfl; have zz := (HC.out.2.2.1).2
  have zf0 := HC.out.2.2.1.frz 0 (by simp)
  have zf1 := HC.out.2.2.1.frz 1 (by simp)
  have zf2 := HC.out.2.2.1.frz 2 (by simp)
  have zz := HC.out.2.2.1.2
  by_cases hz : rc = 0
  case neg =>
    have hzq : (rc != 0) = true := by simpa using hz
    have HE : Hid (stC ss dr rc 6 i j = none) := Hid.intro (by unfold stC; rw [if_neg (by decide), if_neg (by decide), if_pos rfl, if_neg hz])
    clear hz
    go_wp2
    refine bodyPost_ret (v := .tuple #[.agg #[.slice va ss.length vc, .int .i64 dr, .int .i64 rc], .bool false]) (by simp [results, Tryd.results38, go_sem, *]) rfl ?_
    exact L5P.no HE.out HC.out.2.2.2.1 (by omega)
  subst hz
  have HE : Hid (stC ss dr 0 6 i j = some (ss, dr, dr)) := Hid.intro (by unfold stC; rw [if_neg (by decide), if_neg (by decide), if_pos rfl, if_pos rfl]; unfold recN; rw [if_neg HD0.out])
  go_wp2
  refine bodyPost_ret (v := .tuple #[.agg #[.slice va ss.length vc, .int .i64 dr, .int .i64 dr], .bool true]) (by simp [results, Tryd.results38, go_sem, *]) rfl ?_
  exact L5P.yes HE.out (HC.out.1.setR dr) (turn_far HC.out.2.2.2.1 (Nat.le_refl _) _ _) (by omega) HC.out.2.2.2.2.1

end Go.Proofs.YtkpobihpcnoemaaDoor
