/- Synods: the program's StepSynod. -/
import Derived.Test.YtmhkfangfhanlaaSyF
import Derived.Test.YtmhkfangfhanlaaSyJ
namespace Go.Proofs.Ytmhkfangfhanlaa
open Go.RowKit
set_option linter.unusedVariables false
set_option linter.unusedSimpArgs false

def az1 : Sh.T shAcceptor := (0, 0, ⟨#[]⟩, ())
def pz1 : Sh.T shProposer := (⟨#[]⟩, [], false, ⟨#[]⟩, [], ())
/-- What a step makes of an acceptor and a proposer, of n nodes. -/
noncomputable def stE (n : Int) (acc : Bool) (bal node : Int) (a : Sh.T shAcceptor) (q : Sh.T shProposer) : Option (Sh.T shAcceptor × Sh.T shProposer) :=
  if acc then (if tkV bal node a.1 q.2.2.1 q.2.2.2.2.1 then some ((bal, bal, q.2.2.2.1, ()), (q.1, q.2.1, q.2.2.1, q.2.2.2.1, insI q.2.2.2.2.1 node, ())) else none)
  else (if tkP bal a.1 q.2.2.1 then some ((bal, a.2.1, a.2.2.1, ()), (q.1, putP q.2.1 (mkPm node a.2.1 a.2.2.1), decide (n < 2 * ((putP q.2.1 (mkPm node a.2.1 a.2.2.1)).length : Int)), (if decide (n < 2 * ((putP q.2.1 (mkPm node a.2.1 a.2.2.1)).length : Int)) then fixV q.1 (putP q.2.1 (mkPm node a.2.1 a.2.2.1)) else q.2.2.2.1), q.2.2.2.2.1, ())) else none)
def stI (ac : List (Sh.T shAcceptor)) (pr : List (Sh.T shProposer)) (bal node : Int) : Prop := (1 ≤ bal ∧ bal ≤ (pr.length : Int)) ∧ (0 ≤ node ∧ node ≤ (ac.length : Int) - 1)
/-- A step, of a synod that is taken as good. -/
noncomputable def stB (ac : List (Sh.T shAcceptor)) (pr : List (Sh.T shProposer)) (acc : Bool) (bal node : Int) : Option (List (Sh.T shAcceptor) × List (Sh.T shProposer)) :=
  if tf (stI ac pr bal node) then (stE ac.length acc bal node (ac.getD node.toNat az1) (pr.getD (bal - 1).toNat pz1)).map (fun y => (ac.set node.toNat y.1, pr.set (bal - 1).toNat y.2)) else none
noncomputable def stS (ac : List (Sh.T shAcceptor)) (pr : List (Sh.T shProposer)) (acc : Bool) (bal node : Int) : Option (List (Sh.T shAcceptor) × List (Sh.T shProposer)) :=
  if tf (goodS ac pr) then stB ac pr acc bal node else none
theorem stB_no {ac : List (Sh.T shAcceptor)} {pr : List (Sh.T shProposer)} {acc : Bool} {bal node : Int} (h : ¬ stI ac pr bal node) : stB ac pr acc bal node = none := by
  unfold stB; rw [tf_no h]; rfl
theorem stS_no {ac : List (Sh.T shAcceptor)} {pr : List (Sh.T shProposer)} {acc : Bool} {bal node : Int} (h : ¬ goodS ac pr) : stS ac pr acc bal node = none := by
  unfold stS; rw [tf_no h]; rfl
theorem stS_good {ac : List (Sh.T shAcceptor)} {pr : List (Sh.T shProposer)} {acc : Bool} {bal node : Int} (h : goodS ac pr) : stS ac pr acc bal node = stB ac pr acc bal node := by
  unfold stS; rw [tf_yes h]; rfl
theorem stB_at {ac : List (Sh.T shAcceptor)} {pr : List (Sh.T shProposer)} {acc : Bool} {k i : Nat} {a : Sh.T shAcceptor} {q : Sh.T shProposer} (hi : i < ac.length) (hk : k < pr.length) (hA : ac[i] = a) (hP : pr[k] = q) :
    stB ac pr acc ((k : Int) + 1) (i : Int) = (stE ac.length acc ((k : Int) + 1) i a q).map (fun y => (ac.set i y.1, pr.set k y.2)) := by
  unfold stB
  rw [tf_yes ⟨⟨by omega, by omega⟩, by omega, by omega⟩]
  have e1 : ((k : Int) + 1 - 1).toNat = k := by omega
  have e2 : ((i : Int)).toNat = i := by omega
  have e3 : ac.getD i az1 = a := by rw [List.getD_eq_getElem?_getD, List.getElem?_eq_getElem hi, hA]; rfl
  have e4 : pr.getD k pz1 = q := by rw [List.getD_eq_getElem?_getD, List.getElem?_eq_getElem hk, hP]; rfl
  rw [if_pos rfl, e1, e2, e3, e4]
/-- A synod and a Bool are answered. -/
def StP (A : Option (List (Sh.T shAcceptor) × List (Sh.T shProposer))) (w : World) (r : Ending) (w' : World) : Prop := AnsP shSynod ((A.getD ([], [])).1, (A.getD ([], [])).2, ()) A.isSome w r w'
theorem StP.zero {A : Option (List (Sh.T shAcceptor) × List (Sh.T shProposer))} {w w' : World} (h : A = none) (hb : Below w.heap.size w w') : StP A w (.returned (.tuple #[.agg #[.slice none 0 0, .slice none 0 0], .bool false])) w' := by
  subst h
  exact ⟨[.slice none 0 0, .slice none 0 0], rfl, mkown_Synod (Own.none (S := fun _ => False) (Nat.zero_le _)) (Own.none (S := fun _ => False) (Nat.zero_le _)) (fun k e => e.elim) (fun k e => e.elim) (fun k e => e.elim), hb⟩
theorem StP.some {A : Option (List (Sh.T shAcceptor) × List (Sh.T shProposer))} {w w' : World} {va vp : Value} {x : List (Sh.T shAcceptor) × List (Sh.T shProposer)} {lo : Nat} {S : Nat → Prop} (h : A = Option.some x) (hO : OwnX w' lo tySynod [va, vp] (x.1, x.2, ()) S) (hS : ∀ j, S j → Btw w.heap.size w'.heap.size j) (hb : Below w.heap.size w w') : StP A w (.returned (.tuple #[.agg #[va, vp], .bool true])) w' := by
  subst h
  exact ⟨[va, vp], rfl, (hO.own).mono hS, hb⟩

theorem takeB_n (acc : Bool) (bal node n : Int) (W0 W : World) (lo ga oa gp op : Nat) (S0 : Nat → Prop) (v1 v2 : Value) (B1 B2 : Nat → Prop) (p b : Int) (v own : ByteArray) (ps : List (Sh.T shPromise)) (fx : Bool) (val : ByteArray) (vt : List (Sh.T .int))
    (hv : v.size ≤ 20) (hl : ps.length ≤ 12) (hri : ps.Pairwise (fun x y => pnd x < pnd y)) (hs : ∀ x ∈ ps, (pvl x).size ≤ 20) (ho : own.size ≤ 20) (hvs : val.size ≤ 20) (hvt : vt.length ≤ 12) (hrv : List.Pairwise (fun a b : Int => a ≤ b) vt) (hfx : fx = decide (n < 2 * (ps.length : Int)))
    (h : Loc W0 lo ga oa gp op S0 W v1 v2 B1 B2 p b v own ps fx val vt) :
    Calls Try.prog 76 #[.agg (TV bal node n ga oa gp op), .bool acc] W fun r w' => r = .returned (.bool (stE n acc bal node (p, b, v, ()) (own, ps, fx, val, vt, ())).isSome) ∧ ∃ p' b' v' own' ps' fx' val' vt' v5 v6 B5 B6, Loc W0 lo ga oa gp op S0 w' v5 v6 B5 B6 p' b' v' own' ps' fx' val' vt' ∧ ∀ y, stE n acc bal node (p, b, v, ()) (own, ps, fx, val, vt, ()) = some y → y = ((p', b', v', ()), (own', ps', fx', val', vt', ())) := by
  cases acc
  · obtain ⟨hz, hf⟩ := tk_small (bal := bal) (node := node) (p := p) (b := b) (fx := fx) hv hl hs ho
    refine (takeF_n bal node n W0 W lo ga oa gp op S0 v1 v2 B1 B2 p b v own ps fx val vt (by omega) (by omega) hri hz hf h).mono ?_
    rintro r w' ⟨rfl, v5, v6, B5, B6, hL⟩
    refine ⟨?_, _, _, _, _, _, _, _, _, v5, v6, B5, B6, hL, ?_⟩
    · cases ht : tkP bal p fx
      · have e1 : tkD bal node n p b v ps fx = false := by
          unfold tkD tkL
          rw [ht]
          simp only [Bool.false_or, Bool.false_eq_true, if_false]
          unfold tkF
          rw [hfx]; cases decide (n < 2 * (ps.length : Int)) <;> rfl
        have e2 : stE n false bal node (p, b, v, ()) (own, ps, fx, val, vt, ()) = none := by unfold stE; simp [ht]
        rw [e1, e2]; rfl
      · have e1 : tkD bal node n p b v ps fx = true := by unfold tkD; rw [ht]; rfl
        have e2 : (stE n false bal node (p, b, v, ()) (own, ps, fx, val, vt, ())).isSome = true := by unfold stE; simp [ht]
        rw [e1, e2]
    · intro y hy
      cases ht : tkP bal p fx
      · unfold stE at hy; simp [ht] at hy
      · have hf0 : fx = false := by unfold tkP at ht; simp at ht; exact ht.2
        subst hf0
        unfold stE at hy
        simp only [Bool.false_eq_true, if_false, ht, if_true, Option.some.injEq] at hy
        subst hy
        have e1 : tkL bal node p b v ps false = putP ps (mkPm node b v) := by unfold tkL; rw [ht]; rfl
        have e2 : tkN bal p false = bal := by unfold tkN; rw [ht]; rfl
        rw [e1, e2]
        unfold tkF
        rfl
  · refine (takeT_n bal node n W0 W lo ga oa gp op S0 v1 v2 B1 B2 p b v own ps fx val vt (by omega) (by omega) hrv h).mono ?_
    rintro r w' ⟨rfl, v5, v6, B5, B6, hL⟩
    refine ⟨?_, _, _, _, _, _, _, _, _, v5, v6, B5, B6, hL, ?_⟩
    · cases ht : tkV bal node p fx vt
      · have e2 : stE n true bal node (p, b, v, ()) (own, ps, fx, val, vt, ()) = none := by unfold stE; simp [ht]
        rw [e2]; rfl
      · have e2 : (stE n true bal node (p, b, v, ()) (own, ps, fx, val, vt, ())).isSome = true := by unfold stE; simp [ht]
        rw [e2]
    · intro y hy
      cases ht : tkV bal node p fx vt
      · unfold stE at hy; simp [ht] at hy
      · unfold stE at hy
        simp only [ht, if_true, Option.some.injEq] at hy
        subst hy
        rfl

set_option maxRecDepth 100000 in
set_option maxHeartbeats 4000000 in
theorem stepSynod_n (cs : List Value) (ac : List (Sh.T shAcceptor)) (ps : List (Sh.T shProposer)) (acc : Bool) (bal node : Int) (w : World) (hz : szD shSynod (ac, ps, ()) ≤ 1073741824) (h : Lies w shSynod cs (ac, ps, ())) :
    Calls Try.prog 35 #[.agg cs.toArray, .agg #[.bool acc, .int .i64 bal, .int .i64 node]] w (StP (stS ac ps acc bal node) w) := by
  obtain ⟨a1, k1, a2, k2, rfl, h1, h2⟩ := lies_Synod h
  have HL : Hid (Lies w (.list shAcceptor) [.slice a1 ac.length k1] ac ∧ Lies w (.list shProposer) [.slice a2 ps.length k2] ps) := ⟨h1, h2⟩
  have HZ : Hid (szD shSynod (ac, ps, ()) ≤ 1073741824) := hz
  have hna := (syn_sizes hz).2.2.1
  have hno := (syn_sizes hz).2.2.2
  clear h h1 h2 hz
  obtain ⟨w0, hw0⟩ : ∃ x, x = ((w.alloc (.cells #[.slice a1 ac.length k1, .slice a2 ps.length k2] 30)).alloc (.cells #[.bool acc, .int .i64 bal, .int .i64 node] 65)).alloc (.cells #[.slice none 0 0, .slice none 0 0] 30) := ⟨_, rfl⟩
  have HB0 : Hid (Bx w0 w.heap.size [.slice a1 ac.length k1, .slice a2 ps.length k2] ∧ Bx w0 (w.heap.size + 1) [.bool acc, .int .i64 bal, .int .i64 node] ∧ Bx w0 (w.heap.size + 1 + 1) [.slice none 0 0, .slice none 0 0] ∧ Below w.heap.size w w0) :=
    ⟨hw0 ▸ ((Bx.new w [_, _] _).alloc _).alloc _, hw0 ▸ (Bx.newAt (by simp)).alloc _, hw0 ▸ Bx.newAt (by simp), hw0 ▸ (((Below.refl _ _).alloc (Nat.le_refl _) _).alloc (by simp) _).alloc (by simp; omega) _⟩
  go_enter Try.func35, Try.ntmps35
  go_wp2_with fail
  rw [← hw0]
  clear hw0
  refine (goodSynod_n [.slice a1 ac.length k1, .slice a2 ps.length k2] ac ps _ HZ.out (mk_Synod (HL.out.1.next HB0.out.2.2.2) (HL.out.2.next HB0.out.2.2.2))).mono ?_
  rintro r w1 ⟨rfl, hb⟩
  have HB1 : Hid (Bx w1 w.heap.size [.slice a1 ac.length k1, .slice a2 ps.length k2] ∧ Bx w1 (w.heap.size + 1) [.bool acc, .int .i64 bal, .int .i64 node] ∧ Bx w1 (w.heap.size + 1 + 1) [.slice none 0 0, .slice none 0 0] ∧ Below w.heap.size w w1) := ⟨HB0.out.1.next hb, HB0.out.2.1.next hb, HB0.out.2.2.1.next hb, below_next HB0.out.2.2.2 hb⟩
  clear hb HB0
  have s0 := (HB1.out.1).cell 0 rfl; have s1 := (HB1.out.1).cell 1 rfl; have sz := (HB1.out.1).2
  have t0 := (HB1.out.2.1).cell 0 rfl; have t1 := (HB1.out.2.1).cell 1 rfl; have t2 := (HB1.out.2.1).cell 2 rfl; have tz := (HB1.out.2.1).2
  have r0 := (HB1.out.2.2.1).cell 0 rfl; have r1 := (HB1.out.2.2.1).cell 1 rfl; have rz := (HB1.out.2.2.1).2
  have rf0 := HB1.out.2.2.1.frz 0 (by simp)
  have rf1 := HB1.out.2.2.1.frz 1 (by simp)
  have hset : Hid (∀ u0 u1, Below w.heap.size w ((w1.setCell ⟨w.heap.size + 1 + 1, 0, none⟩ u0).setCell ⟨w.heap.size + 1 + 1, 1, none⟩ u1)) := Hid.intro (fun u0 u1 => (HB1.out.2.2.2.setCell (p := ⟨w.heap.size + 1 + 1, 0, none⟩) (by simp; omega) _).setCell (p := ⟨w.heap.size + 1 + 1, 1, none⟩) (by simp; omega) _)
  by_cases c0 : goodS ac ps
  case neg =>
    rw [tf_no c0]
    have HN : Hid (stS ac ps acc bal node = none) := Hid.intro (stS_no c0)
    clear c0
    go_wp2_with fail
    exact bodyPost_ret (v := .tuple #[.agg #[.slice none 0 0, .slice none 0 0], .bool false]) (by simp [results, Try.results35, go_sem, *]) rfl (StP.zero HN.out (hset.out _ _))
  rw [tf_yes c0]
  have HG : Hid (goodS ac ps) := c0
  clear c0
  cases c1 : inR bal 1 (ps.length : Int)
  · have HN : Hid (stS ac ps acc bal node = none) := Hid.intro ((stS_good HG.out).trans (stB_no (fun q => by rw [inR_iff.2 q.1] at c1; cases c1)))
    go_wp2_with (first | (go_at_call 54; refine (inRange_any _ _ _ _).mono ?_; rintro e w' ⟨rfl, rfl⟩))
    exact bodyPost_ret (v := .tuple #[.agg #[.slice none 0 0, .slice none 0 0], .bool false]) (by simp [results, Try.results35, go_sem, *]) rfl (StP.zero HN.out (hset.out _ _))
  cases c2 : inR node 0 ((ac.length : Int) - 1)
  · have HN : Hid (stS ac ps acc bal node = none) := Hid.intro ((stS_good HG.out).trans (stB_no (fun q => by rw [inR_iff.2 q.2] at c2; cases c2)))
    go_wp2_with (first | (go_at_call 54; refine (inRange_any _ _ _ _).mono ?_; rintro e w' ⟨rfl, rfl⟩))
    exact bodyPost_ret (v := .tuple #[.agg #[.slice none 0 0, .slice none 0 0], .bool false]) (by simp [results, Try.results35, go_sem, *]) rfl (StP.zero HN.out (hset.out _ _))
  have hbd := inR_iff.1 c1
  have hnd := inR_iff.1 c2
  obtain ⟨k, rfl⟩ : ∃ k : Nat, bal = (k : Int) + 1 := ⟨(bal - 1).toNat, by omega⟩
  obtain ⟨i, rfl⟩ : ∃ i : Nat, node = (i : Int) := ⟨node.toNat, by omega⟩
  have hk : k < ps.length := by omega
  have hi : i < ac.length := by omega
  obtain ⟨A, hA⟩ : ∃ A, ac[i] = A := ⟨_, rfl⟩
  obtain ⟨P, hP⟩ : ∃ P, ps[k] = P := ⟨_, rfl⟩
  obtain ⟨p, b, v, _⟩ := A
  obtain ⟨own, pms, fx, val, vt, _⟩ := P
  have HS : Hid (stS ac ps acc ((k : Int) + 1) (i : Int) = (stE ac.length acc ((k : Int) + 1) i (p, b, v, ()) (own, pms, fx, val, vt, ())).map (fun y => (ac.set i y.1, ps.set k y.2))) := Hid.intro ((stS_good HG.out).trans (stB_at hi hk hA hP))
  have HGS := Hid.intro (good_small HG.out hi hk hA hP)
  have HFX : Hid (fx = decide ((ac.length : Int) < 2 * (pms.length : Int))) := Hid.intro (by have := HG.out.2.2.2 k hk hk; rw [hP] at this; exact this.2.2.1)
  have hn8 := HG.out.2.1.2
  have hn12 := HG.out.1.2
  have HA := Hid.intro hA
  have HP := Hid.intro hP
  clear hA hP hset
  go_wp2_with (first | (go_at_call 54; refine (inRange_any _ _ _ _).mono ?_; rintro e w' ⟨rfl, hw⟩; have hw := hw.symm; subst hw; first | rw [c1] | rw [c2]))
  refine (cloneSynod_n [.slice a1 ac.length k1, .slice a2 ps.length k2] ac ps _ HZ.out (mk_Synod (HL.out.1.next HB1.out.2.2.2) (HL.out.2.next HB1.out.2.2.2))).mono ?_
  rintro r w2 ⟨cs2, rfl, hO, hb⟩
  have HT2 : Hid (Bx w2 (w.heap.size + 1) [.bool acc, .int .i64 ((k : Int) + 1), .int .i64 (i : Int)] ∧ Bx w2 (w.heap.size + 1 + 1) [.slice none 0 0, .slice none 0 0] ∧ Below w.heap.size w w2 ∧ w.heap.size + 1 + 1 < w1.heap.size) := ⟨HB1.out.2.1.next hb, HB1.out.2.2.1.next hb, below_next HB1.out.2.2.2 hb, HB1.out.2.2.1.2⟩
  obtain ⟨va, _, vp, _, hcs, _⟩ := ownx_Synod hO
  subst hcs
  obtain ⟨w3, hw3⟩ : ∃ x, x = w2.alloc (.cells #[va, vp] 30) := ⟨_, rfl⟩
  obtain ⟨X, hX⟩ : ∃ x, x = w3.drew := ⟨_, rfl⟩
  have hbX : Below w2.heap.size w2 X := hX ▸ (hw3 ▸ Go.Joins.below_alloc1 _ _ : Below w2.heap.size w2 w3).drew
  have hOX : OwnX X w1.heap.size tySynod [va, vp] (ac, ps, ()) (Btw w1.heap.size w2.heap.size) := hO.next hbX
  have hs12 := hb.size
  have hs2X := hbX.size
  have hbx6 : Bx X w2.heap.size [va, vp] := hX ▸ (hw3 ▸ Bx.new w2 [_, _] _ : Bx w3 _ _).next (below_drew _)
  obtain ⟨ga, ka, gp, kp, v1, v2, B1, B2, hva, hvp, hka, hkp, hSin, hLoc, hback⟩ := synod_loc hOX hi hk (by omega) (fun j hj => by have := hj.2; omega) HA.out HP.out
  subst hva hvp
  have HX : Hid (Loc X w1.heap.size ga (i * 3) gp (k * 5) (locS ga gp B1 B2) X v1 v2 B1 B2 p b v own pms fx val vt ∧ Bx X w2.heap.size [.slice (some ⟨ga, 0, none⟩) ac.length ka, .slice (some ⟨gp, 0, none⟩) ps.length kp] ∧ Bx X (w.heap.size + 1) [.bool acc, .int .i64 ((k : Int) + 1), .int .i64 (i : Int)] ∧ Bx X (w.heap.size + 1 + 1) [.slice none 0 0, .slice none 0 0] ∧ Below w.heap.size w X ∧ (∀ j, locS ga gp B1 B2 j → w1.heap.size ≤ j ∧ j < w2.heap.size) ∧ w.heap.size + 1 + 1 < w1.heap.size ∧ w1.heap.size ≤ w2.heap.size) := ⟨hLoc, hbx6, HT2.out.1.next hbX, HT2.out.2.1.next hbX, below_next HT2.out.2.2.1 hbX, fun j hj => hSin j hj, HT2.out.2.2.2, hs12⟩
  have HBK := Hid.intro hback
  clear hb hO hOX hbX hbx6 hSin hLoc hback HB1 HT2 HL s0 s1 sz t0 t1 t2 tz r0 r1 rz rf0 rf1
  go_upto_region 4 with fail
  rw [← hw3]
  clear hw3
  refine wp_region_noPanic ?_
  refine wp_region_held_drew (S := fun W => Bx W (w.heap.size + 1) [.bool acc, .int .i64 ((k : Int) + 1), .int .i64 (i : Int)]) (by kernel_rfl) (hX ▸ HX.out.2.2.1) (fun hHeld => ?_)
  rw [← hX] at hHeld ⊢
  clear hX
  refine take_v (v := ?_) 0 ⟨some 32, Op.load 65 (Operand.tmp 3), _, _, _, none⟩ rfl (fun _ _ _ h => h) ?_ hHeld ?_
  rotate_left
  · (intro W hSW; (have s0 := hSW.cell 0 rfl; have s1 := hSW.cell 1 rfl; have s2 := hSW.cell 2 rfl; have sz := hSW.2); go_simp <;> (try with_reducible rfl))
  refine take_v (v := ?_) 2 ⟨some 34, Op.fieldAddr 65 (Operand.tmp 3) 0, _, _, _, none⟩ rfl (fun _ _ _ h => h) ?_ hHeld ?_
  rotate_left
  · (intro W _; go_simp <;> (try with_reducible rfl))
  refine take_v (v := ?_) 3 ⟨some 35, Op.load 4 (Operand.tmp 34), _, _, _, none⟩ rfl (fun _ _ _ h => h) ?_ hHeld ?_
  rotate_left
  · (intro W hSW; (have s0 := hSW.cell 0 rfl; have s1 := hSW.cell 1 rfl; have s2 := hSW.cell 2 rfl; have sz := hSW.2); go_simp <;> (try with_reducible rfl))
  refine ready_call 1 ⟨some 33, Op.call { callee := Callee.value (Operand.func 75), args := #[Operand.tmp 6, Operand.tmp 32], argTypes := #[113, 65] }, _, _, _, none⟩ (by kernel_rfl) rfl (by kernel_rfl) (fun KC hK => ?_)
  go_wp2_with fail
  refine (turnOf_n acc k i w2.heap.size ga ac.length ka gp ps.length kp X hk hi hkp hka (by omega) (by omega) (HX.out.2.1.cell 0 rfl) (HX.out.2.1.cell 1 rfl) HX.out.2.1.2).mono ?_
  rintro r X1 ⟨rfl, hb⟩
  have H1 := (show Hid (Loc X w1.heap.size ga (i * 3) gp (k * 5) (locS ga gp B1 B2) X1 v1 v2 B1 B2 p b v own pms fx val vt ∧ Bx X1 w2.heap.size [.slice (some ⟨ga, 0, none⟩) ac.length ka, .slice (some ⟨gp, 0, none⟩) ps.length kp] ∧ Bx X1 (w.heap.size + 1) [.bool acc, .int .i64 ((k : Int) + 1), .int .i64 (i : Int)] ∧ Bx X1 (w.heap.size + 1 + 1) [.slice none 0 0, .slice none 0 0] ∧ Below w.heap.size w X1) from ⟨HX.out.1.next hb, HX.out.2.1.next hb, HX.out.2.2.1.next hb, HX.out.2.2.2.1.next hb, below_next HX.out.2.2.2.2.1 hb⟩)
  clear hb
  refine hK.out _ _ H1.out.2.2.1 (fun hHeld => ?_)
  clear hK KC
  refine ready_call 4 ⟨some 36, Op.call { callee := Callee.value (Operand.func 76), args := #[Operand.tmp 33, Operand.tmp 35], argTypes := #[111, 4] }, _, _, _, none⟩ (by kernel_rfl) rfl (by kernel_rfl) (fun KC hK => ?_)
  go_wp2_with fail
  refine (takeB_n acc ((k : Int) + 1) i ac.length X X1 w1.heap.size ga (i * 3) gp (k * 5) (locS ga gp B1 B2) v1 v2 B1 B2 p b v own pms fx val vt HGS.out.1 HGS.out.2.1 HGS.out.2.2.1 HGS.out.2.2.2.1 HGS.out.2.2.2.2.1 HGS.out.2.2.2.2.2.1 HGS.out.2.2.2.2.2.2.1 HGS.out.2.2.2.2.2.2.2.1 HFX.out H1.out.1).mono ?_
  rintro r X2 ⟨rfl, p', b', v', own', ps', fx', val', vt', v5, v6, B5, B6, hL2, hE⟩
  have hjj : ∀ j, j < w1.heap.size ∨ j = w2.heap.size → ¬ locS ga gp B1 B2 j := fun j hj q => by have := HX.out.2.2.2.2.2.1 j q; omega
  have hT := hL2.2.2.2.2.2.2.2.2.2.1
  have h12 := HX.out.2.2.2.2.2.2
  have H2 := (show Hid (OwnX X2 w1.heap.size tySynod [.slice (some ⟨ga, 0, none⟩) ac.length ka, .slice (some ⟨gp, 0, none⟩) ps.length kp] (ac.set i (p', b', v', ()), ps.set k (own', ps', fx', val', vt', ()), ()) (fun j => Btw w1.heap.size w2.heap.size j ∨ (X.heap.size ≤ j ∧ j < X2.heap.size)) ∧ Bx X2 w2.heap.size [.slice (some ⟨ga, 0, none⟩) ac.length ka, .slice (some ⟨gp, 0, none⟩) ps.length kp] ∧ Bx X2 (w.heap.size + 1) [.bool acc, .int .i64 ((k : Int) + 1), .int .i64 (i : Int)] ∧ Bx X2 (w.heap.size + 1 + 1) [.slice none 0 0, .slice none 0 0] ∧ Below w.heap.size w X2 ∧ X.heap.size ≤ X2.heap.size) from ⟨HBK.out X2 v5 v6 B5 B6 p' b' v' own' ps' fx' val' vt' hL2, HX.out.2.1.turnS hT (hjj _ (Or.inr rfl)), HX.out.2.2.1.turnS hT (hjj _ (Or.inl (by omega))), HX.out.2.2.2.1.turnS hT (hjj _ (Or.inl (by omega))), HX.out.2.2.2.2.1.trans (hT.below (fun j hj => by have := HX.out.2.2.2.2.2.1 j hj; omega) (by have := HX.out.2.2.2.2.1.size; omega)), hT.size⟩)
  have HE := Hid.intro hE
  clear hL2 hE hjj hT h12
  refine hK.out _ _ H2.out.2.2.1 (fun hHeld => ?_)
  clear hK KC
  refine take_v (v := ?_) 5 ⟨some 37, Op.unOp UnOp.not 4 (Operand.tmp 36), _, _, _, none⟩ rfl (fun _ _ _ h => h) ?_ hHeld ?_
  rotate_left
  · (intro W _; go_simp <;> (try with_reducible rfl))
  refine wpAnyH_done (by kernel_rfl) ?_ _
  refine NoPanic.normal ?_
  have H12 := Hid.intro HX.out.2.2.2.2.2.2
  clear hHeld HX HBK H1
  have r0 := H2.out.2.2.2.1.cell 0 rfl
  have r1 := H2.out.2.2.2.1.cell 1 rfl
  have rz := H2.out.2.2.2.1.2
  have rf0 := H2.out.2.2.2.1.frz 0 (by simp)
  have rf1 := H2.out.2.2.2.1.frz 1 (by simp)
  have hset : Hid (∀ u0 u1, Below w.heap.size w ((X2.setCell ⟨w.heap.size + 1 + 1, 0, none⟩ u0).setCell ⟨w.heap.size + 1 + 1, 1, none⟩ u1)) := Hid.intro (fun u0 u1 => (H2.out.2.2.2.2.1.setCell (p := ⟨w.heap.size + 1 + 1, 0, none⟩) (by simp; omega) _).setCell (p := ⟨w.heap.size + 1 + 1, 1, none⟩) (by simp; omega) _)
  obtain ⟨E, hEE⟩ : ∃ E, E = stE ac.length acc ((k : Int) + 1) i (p, b, v, ()) (own, pms, fx, val, vt, ()) := ⟨_, rfl⟩
  rw [← hEE] at HS HE ⊢
  clear hEE
  cases E with
  | none =>
    have HN : Hid (stS ac ps acc ((k : Int) + 1) (i : Int) = none) := Hid.intro HS.out
    simp only [Option.isSome_none]
    go_wp2_with fail
    exact bodyPost_ret (v := .tuple #[.agg #[.slice none 0 0, .slice none 0 0], .bool false]) (by simp [results, Try.results35, go_sem, *]) rfl (StP.zero HN.out (hset.out _ _))
  | some y =>
    have HN : Hid (stS ac ps acc ((k : Int) + 1) (i : Int) = some (ac.set i (p', b', v', ()), ps.set k (own', ps', fx', val', vt', ()))) := Hid.intro (by rw [HS.out, HE.out y rfl]; rfl)
    simp only [Option.isSome_some]
    have b0 := H2.out.2.1.cell 0 rfl
    have b1 := H2.out.2.1.cell 1 rfl
    have bz := H2.out.2.1.2
    have hne : w2.heap.size ≠ w.heap.size + 1 + 1 := by have := H12.out; omega
    go_wp2_with fail
    refine bodyPost_ret (v := .tuple #[.agg #[.slice (some ⟨ga, 0, none⟩) ac.length ka, .slice (some ⟨gp, 0, none⟩) ps.length kp], .bool true]) (by simp [results, Try.results35, go_sem, *]) rfl (StP.some HN.out ((H2.out.1.set (p := ⟨w.heap.size + 1 + 1, 0, none⟩) (fun q => ?_) _).set (p := ⟨w.heap.size + 1 + 1, 1, none⟩) (fun q => ?_) _) (fun j q => ?_) (hset.out _ _))
    · have h12 := H12.out; have q : Btw w1.heap.size w2.heap.size (w.heap.size + 1 + 1) ∨ _ := q; simp only [Btw] at q; omega
    · have h12 := H12.out; have q : Btw w1.heap.size w2.heap.size (w.heap.size + 1 + 1) ∨ _ := q; simp only [Btw] at q; omega
    · have h12 := H12.out; have h13 := H2.out.2.2.2.2.2; simp only [Btw, World.size_setCell] at q ⊢; omega
end Go.Proofs.Ytmhkfangfhanlaa
