/- Leases: impl.StepLease; spec.l11Own, spec.l11Step. Written by tools/mkLsC.py. -/
import Derived.Test.YtidalpgkljafdaaLsB
import Derived.Test.YtidalpgkljafdaaLeM
namespace Go.Proofs.Ytidalpgkljafdaa
open Go.RowKit
set_option linter.unusedVariables false
set_option linter.unusedSimpArgs false

def z0L : Sh.T shLeases := mkLe 0 0 [] 0 0 []
/-- What a step answers. -/
def LsP (A : Option (Sh.T shLeases)) (w : World) (r : Ending) (w' : World) : Prop := AnsP shLeases (A.getD z0L) A.isSome w r w'
theorem LsP.zero {A : Option (Sh.T shLeases)} {w w' : World} (h : A = none) (hb : Below w.heap.size w w') : LsP A w (.returned (.tuple #[.agg #[.int .i64 0, .int .i64 0, .slice none 0 0, .int .i64 0, .int .i64 0, .slice none 0 0], .bool false])) w' := by
  subst h
  exact ⟨[.int .i64 0, .int .i64 0, .slice none 0 0, .int .i64 0, .int .i64 0, .slice none 0 0], rfl, mkown_Leases (Own.none (S := fun _ => False) (Nat.zero_le _)) (Own.none (S := fun _ => False) (Nat.zero_le _)) (fun k e => e.elim) (fun k e => e.elim) (fun k e => e.elim), hb⟩
theorem rw_own {W : World} {lo g1 k1 g2 k2 m z : Nat} {sk nw ho un : Int} {cl kn : List (Sh.T .int)} (r1 : Rw 3 W lo g1 k1 cl m) (r2 : Rw 3 W lo g2 k2 kn m) (hne : g1 ≠ g2) (h1 : z ≤ g1) (h2 : z ≤ g2) : Own W shLeases [.int .i64 sk, .int .i64 nw, .slice (some ⟨g1, 0, none⟩) m k1, .int .i64 ho, .int .i64 un, .slice (some ⟨g2, 0, none⟩) m k2] (sk, nw, cl, ho, un, kn, ()) (Btw z W.heap.size) :=
  mkown_Leases (S1 := fun k => k = g1) (S2 := fun k => k = g2) (OwnX.own r1.1) (OwnX.own r2.1) (fun k e => by have e : k = g1 := e; have := r1.lt.1; simp only [Btw]; omega) (fun k e => by have e : k = g2 := e; have := r2.lt.1; simp only [Btw]; omega) (fun k e f => by have e : k = g1 := e; have f : k = g2 := f; omega)
theorem LsP.done {A : Option (Sh.T shLeases)} {w W : World} {lo g1 k1 g2 k2 m : Nat} {sk nw ho un : Int} {cl kn : List (Sh.T .int)} (h : A = some (sk, nw, cl, ho, un, kn, ())) (r1 : Rw 3 W lo g1 k1 cl m) (r2 : Rw 3 W lo g2 k2 kn m) (hne : g1 ≠ g2) (h1 : w.heap.size ≤ g1) (h2 : w.heap.size ≤ g2) (hb : Below w.heap.size w W) : LsP A w (.returned (.tuple #[.agg #[.int .i64 sk, .int .i64 nw, .slice (some ⟨g1, 0, none⟩) m k1, .int .i64 ho, .int .i64 un, .slice (some ⟨g2, 0, none⟩) m k2], .bool true])) W := by
  subst h
  exact ⟨[.int .i64 sk, .int .i64 nw, .slice (some ⟨g1, 0, none⟩) m k1, .int .i64 ho, .int .i64 un, .slice (some ⟨g2, 0, none⟩) m k2], rfl, rw_own r1 r2 hne h1 h2, hb⟩
theorem cl_ne {sk nw ho un : Int} {cl kn : List (Sh.T .int)} (h : goodL sk nw cl ho un kn) : cl ≠ [] ∧ kn ≠ [] ∧ kn.length = cl.length := by
  have h1 := h.2.2.2.1
  have h2 := h.2.2.2.2.1
  refine ⟨fun e => ?_, fun e => ?_, h2⟩
  · rw [e] at h1; simp at h1
  · rw [e] at h2; rw [← h2] at h1; simp at h1
/-- A copy of good leases, as the steps take it. -/
theorem toX_rows {w w' : World} {r : Ending} {sk nw ho un : Int} {cl kn : List (Sh.T .int)} (hg : goodL sk nw cl ho un kn) (h : ToX tyLeases (sk, nw, cl, ho, un, kn, ()) w r w') : ∃ g1 k1 g2 k2 m, r = .returned (.agg #[.int .i64 sk, .int .i64 nw, .slice (some ⟨g1, 0, none⟩) m k1, .int .i64 ho, .int .i64 un, .slice (some ⟨g2, 0, none⟩) m k2]) ∧ Rw 3 w' w.heap.size g1 k1 cl m ∧ Rw 3 w' w.heap.size g2 k2 kn m ∧ g1 ≠ g2 ∧ Below w.heap.size w w' ∧ m ≤ 12 := by
  obtain ⟨cs, rfl, hO, hb⟩ := h
  obtain ⟨v1, S1, v2, S2, hcs, o1, o2, _, _, hd⟩ := ownx_Leases hO
  subst hcs
  have hn := cl_ne hg
  have h12 := hg.2.2.2.1
  obtain ⟨g1, k1, rfl, s1, r1⟩ := Rw.of o1 hn.1
  obtain ⟨g2, k2, rfl, s2, r2⟩ := Rw.of o2 hn.2.1
  rw [hn.2.2] at r2 ⊢
  exact ⟨g1, k1, g2, k2, cl.length, rfl, r1, r2, fun e => hd g1 s1 (e ▸ s2), hb, by omega⟩


set_option maxRecDepth 100000 in
set_option maxHeartbeats 4000000 in
theorem stepLease_n (cs : List Value) (sk nw : Int) (cl : List (Sh.T .int)) (ho un : Int) (kn : List (Sh.T .int)) (a b n : Int) (w : World) (hz : szD shLeases (sk, nw, cl, ho, un, kn, ()) ≤ 1073741824) (h : Lies w shLeases cs (sk, nw, cl, ho, un, kn, ())) :
    Calls Try.prog 16 #[.agg cs.toArray, .agg #[.int .i64 a, .int .i64 b, .int .i64 n]] w (LsP (leS sk nw cl ho un kn a b n) w) := by
  obtain ⟨a1, c1, a2, c2, rfl, h1, h2⟩ := lies_Leases h
  have HL : Hid (Lies w (.list .int) [.slice a1 cl.length c1] cl ∧ Lies w (.list .int) [.slice a2 kn.length c2] kn) := ⟨h1, h2⟩
  have HZ : Hid (szD shLeases (sk, nw, cl, ho, un, kn, ()) ≤ 1073741824) := hz
  clear h h1 h2 hz
  obtain ⟨w0, hw0⟩ : ∃ x, x = ((w.alloc (.cells #[.int .i64 sk, .int .i64 nw, .slice a1 cl.length c1, .int .i64 ho, .int .i64 un, .slice a2 kn.length c2] 28)).alloc (.cells #[.int .i64 a, .int .i64 b, .int .i64 n] 34)).alloc (.cells #[.int .i64 0, .int .i64 0, .slice none 0 0, .int .i64 0, .int .i64 0, .slice none 0 0] 28) := ⟨_, rfl⟩
  have HB0 : Hid (Bx w0 w.heap.size [.int .i64 sk, .int .i64 nw, .slice a1 cl.length c1, .int .i64 ho, .int .i64 un, .slice a2 kn.length c2] ∧ Bx w0 (w.heap.size + 1) [.int .i64 a, .int .i64 b, .int .i64 n] ∧ Bx w0 (w.heap.size + 1 + 1) [.int .i64 0, .int .i64 0, .slice none 0 0, .int .i64 0, .int .i64 0, .slice none 0 0] ∧ Below w.heap.size w w0) :=
    ⟨hw0 ▸ ((Bx.new w [_, _, _, _, _, _] _).alloc _).alloc _, hw0 ▸ (Bx.newAt (by simp)).alloc _, hw0 ▸ Bx.newAt (by simp), hw0 ▸ (((Below.refl _ _).alloc (Nat.le_refl _) _).alloc (by simp) _).alloc (by simp; omega) _⟩
  go_enter Try.func16, Try.ntmps16
  go_wp2_with fail
  rw [← hw0]
  clear hw0
  refine (goodLeases_n [.int .i64 sk, .int .i64 nw, .slice a1 cl.length c1, .int .i64 ho, .int .i64 un, .slice a2 kn.length c2] sk nw cl ho un kn _ HZ.out (mk_Leases (HL.out.1.next HB0.out.2.2.2) (HL.out.2.next HB0.out.2.2.2))).mono ?_
  rintro r w1 ⟨rfl, hb⟩
  have HB1 : Hid (Bx w1 w.heap.size [.int .i64 sk, .int .i64 nw, .slice a1 cl.length c1, .int .i64 ho, .int .i64 un, .slice a2 kn.length c2] ∧ Bx w1 (w.heap.size + 1) [.int .i64 a, .int .i64 b, .int .i64 n] ∧ Bx w1 (w.heap.size + 1 + 1) [.int .i64 0, .int .i64 0, .slice none 0 0, .int .i64 0, .int .i64 0, .slice none 0 0] ∧ Below w.heap.size w w1) := ⟨HB0.out.1.next hb, HB0.out.2.1.next hb, HB0.out.2.2.1.next hb, below_next HB0.out.2.2.2 hb⟩
  clear hb HB0
  have s0 := HB1.out.1.cell 0 rfl
  have s1 := HB1.out.1.cell 1 rfl
  have s2 := HB1.out.1.cell 2 rfl
  have s3 := HB1.out.1.cell 3 rfl
  have s4 := HB1.out.1.cell 4 rfl
  have s5 := HB1.out.1.cell 5 rfl
  have sz := HB1.out.1.2
  have t0 := HB1.out.2.1.cell 0 rfl
  have t1 := HB1.out.2.1.cell 1 rfl
  have t2 := HB1.out.2.1.cell 2 rfl
  have tz := HB1.out.2.1.2
  have r0 := HB1.out.2.2.1.cell 0 rfl
  have r1 := HB1.out.2.2.1.cell 1 rfl
  have r2 := HB1.out.2.2.1.cell 2 rfl
  have r3 := HB1.out.2.2.1.cell 3 rfl
  have r4 := HB1.out.2.2.1.cell 4 rfl
  have r5 := HB1.out.2.2.1.cell 5 rfl
  have rz := HB1.out.2.2.1.2
  have rf0 := HB1.out.2.2.1.frz 0 (by simp)
  have rf1 := HB1.out.2.2.1.frz 1 (by simp)
  have rf2 := HB1.out.2.2.1.frz 2 (by simp)
  have rf3 := HB1.out.2.2.1.frz 3 (by simp)
  have rf4 := HB1.out.2.2.1.frz 4 (by simp)
  have rf5 := HB1.out.2.2.1.frz 5 (by simp)
  have hset : Hid (∀ u0 u1 u2 u3 u4 u5, Below w.heap.size w ((((((w1.setCell ⟨w.heap.size + 1 + 1, 0, none⟩ u0).setCell ⟨w.heap.size + 1 + 1, 1, none⟩ u1).setCell ⟨w.heap.size + 1 + 1, 2, none⟩ u2).setCell ⟨w.heap.size + 1 + 1, 3, none⟩ u3).setCell ⟨w.heap.size + 1 + 1, 4, none⟩ u4).setCell ⟨w.heap.size + 1 + 1, 5, none⟩ u5)) := Hid.intro (fun _ _ _ _ _ _ => HB1.out.2.2.2.trans ((set6 w1 (w.heap.size + 1 + 1) _ _ _ _ _ _).below (fun k e => by have e : k = w.heap.size + 1 + 1 := e; omega) HB1.out.2.2.2.size))
  by_cases c0 : goodL sk nw cl ho un kn
  case neg =>
    rw [tf_no c0]
    have HN : Hid (leS sk nw cl ho un kn a b n = none) := Hid.intro (leS_no c0)
    clear c0
    go_wp2_with fail
    exact bodyPost_ret (v := .tuple #[.agg #[.int .i64 0, .int .i64 0, .slice none 0 0, .int .i64 0, .int .i64 0, .slice none 0 0], .bool false]) (by simp [results, Try.results16, go_sem, *]) rfl (LsP.zero HN.out (hset.out _ _ _ _ _ _))
  rw [tf_yes c0]
  have HG : Hid (goodL sk nw cl ho un kn) := c0
  have HS : Hid (leS sk nw cl ho un kn a b n = leB sk nw cl ho un kn a b n) := Hid.intro (leS_yes c0)
  clear c0 hset
  go_wp2_with fail
  refine (cloneLeases_n [.int .i64 sk, .int .i64 nw, .slice a1 cl.length c1, .int .i64 ho, .int .i64 un, .slice a2 kn.length c2] sk nw cl ho un kn _ HZ.out (mk_Leases (HL.out.1.next HB1.out.2.2.2) (HL.out.2.next HB1.out.2.2.2))).mono ?_
  intro r w2 hT
  obtain ⟨g1, k1, g2, k2, m, rfl, hr1, hr2, hne, hb, hm12⟩ := toX_rows HG.out hT
  have HB2 : Hid (Bx w2 (w.heap.size + 1) [.int .i64 a, .int .i64 b, .int .i64 n] ∧ Bx w2 (w.heap.size + 1 + 1) [.int .i64 0, .int .i64 0, .slice none 0 0, .int .i64 0, .int .i64 0, .slice none 0 0] ∧ Below w.heap.size w w2 ∧ w.heap.size + 1 + 1 < w1.heap.size ∧ w1.heap.size ≤ w2.heap.size) := ⟨HB1.out.2.1.next hb, HB1.out.2.2.1.next hb, below_next HB1.out.2.2.2 hb, HB1.out.2.2.1.2, hb.size⟩
  obtain ⟨b6, hb6⟩ : ∃ x, x = w2.heap.size := ⟨_, rfl⟩
  obtain ⟨w3, hw3⟩ : ∃ x, x = w2.alloc (.cells #[.int .i64 sk, .int .i64 nw, .slice (some ⟨g1, 0, none⟩) m k1, .int .i64 ho, .int .i64 un, .slice (some ⟨g2, 0, none⟩) m k2] 28) := ⟨_, rfl⟩
  have hb3 : Below w2.heap.size w2 w3 := hw3 ▸ Go.Joins.below_alloc1 _ _
  have HX : Hid (LxS w3 w1.heap.size b6 sk nw g1 k1 cl ho un g2 k2 kn m ∧ Bx w3 (w.heap.size + 1 + 1) [.int .i64 0, .int .i64 0, .slice none 0 0, .int .i64 0, .int .i64 0, .slice none 0 0] ∧ Below w.heap.size w w3 ∧ w.heap.size + 1 + 1 < w1.heap.size ∧ w1.heap.size ≤ b6 ∧ w1.heap.size ≤ g1 ∧ w1.heap.size ≤ g2) := ⟨⟨hb6 ▸ hw3 ▸ Bx.new w2 [_, _, _, _, _, _] _, hr1.next hb3, hr2.next hb3, hne, by have := hr1.lt.1; omega, by have := hr2.lt.1; omega⟩, HB2.out.2.1.next hb3, below_next HB2.out.2.2.1 hb3, HB2.out.2.2.2.1, hb6 ▸ HB2.out.2.2.2.2, hr1.lt.2, hr2.lt.2⟩
  clear hb hT hr1 hr2 hne hb3 HB1 s0 s1 s2 s3 s4 s5 sz t0 t1 t2 tz r0 rf0 r1 rf1 r2 rf2 r3 rf3 r4 rf4 r5 rf5 rz
  have t0 := HB2.out.1.cell 0 rfl
  have t1 := HB2.out.1.cell 1 rfl
  have t2 := HB2.out.1.cell 2 rfl
  have tz := HB2.out.1.2
  go_wp2_with fail
  rw [← hw3, ← hb6]
  clear hw3 hb6 HB2 t0 t1 t2 tz
  refine (takeLeaseStep_n w1.heap.size b6 sk nw g1 k1 cl ho un g2 k2 kn m a b n w3 HG.out HX.out.1).mono ?_
  rintro r w4 ⟨rfl, hT, hY⟩
  have HX4 : Hid (Bx w4 (w.heap.size + 1 + 1) [.int .i64 0, .int .i64 0, .slice none 0 0, .int .i64 0, .int .i64 0, .slice none 0 0] ∧ Below w.heap.size w w4) := Hid.intro (by
    have h0 := HX.out.2.2.2
    have h1 := HX.out.2.2.1.size
    exact ⟨HX.out.2.1.turnS hT (by omega), HX.out.2.2.1.trans (hT.below (fun k e => by have e : k = b6 ∨ k = g1 ∨ k = g2 := e; omega) h1)⟩)
  have HY := Hid.intro hY
  have H12 := Hid.intro HX.out.2.2.2
  clear hT hY HX
  have r0 := HX4.out.1.cell 0 rfl
  have r1 := HX4.out.1.cell 1 rfl
  have r2 := HX4.out.1.cell 2 rfl
  have r3 := HX4.out.1.cell 3 rfl
  have r4 := HX4.out.1.cell 4 rfl
  have r5 := HX4.out.1.cell 5 rfl
  have rz := HX4.out.1.2
  have rf0 := HX4.out.1.frz 0 (by simp)
  have rf1 := HX4.out.1.frz 1 (by simp)
  have rf2 := HX4.out.1.frz 2 (by simp)
  have rf3 := HX4.out.1.frz 3 (by simp)
  have rf4 := HX4.out.1.frz 4 (by simp)
  have rf5 := HX4.out.1.frz 5 (by simp)
  obtain ⟨E, hEE⟩ : ∃ E, E = leB sk nw cl ho un kn a b n := ⟨_, rfl⟩
  rw [← hEE] at HS HY ⊢
  clear hEE
  cases E with
  | none =>
    simp only [Option.isSome_none]
    go_wp2_with fail
    exact bodyPost_ret (v := .tuple #[.agg #[.int .i64 0, .int .i64 0, .slice none 0 0, .int .i64 0, .int .i64 0, .slice none 0 0], .bool false]) (by simp [results, Try.results16, go_sem, *]) rfl (LsP.zero HS.out (HX4.out.2.trans ((set6 w4 (w.heap.size + 1 + 1) _ _ _ _ _ _).below (fun k e => by have e : k = w.heap.size + 1 + 1 := e; omega) HX4.out.2.size)))
  | some y =>
    simp only [Option.isSome_some]
    obtain ⟨sk', nw', cl', ho', un', kn', ⟨⟩⟩ := y
    have HF : Hid (LxS w4 w1.heap.size b6 sk' nw' g1 k1 cl' ho' un' g2 k2 kn' m) := Hid.intro (HY.out _ rfl)
    have b0 := HF.out.1.cell 0 rfl
    have b1 := HF.out.1.cell 1 rfl
    have b2 := HF.out.1.cell 2 rfl
    have b3 := HF.out.1.cell 3 rfl
    have b4 := HF.out.1.cell 4 rfl
    have b5 := HF.out.1.cell 5 rfl
    have bz := HF.out.1.2
    have hne : b6 ≠ w.heap.size + 1 + 1 := by have := H12.out; omega
    have hse : Hid (TurnS (fun k => k = w.heap.size + 1 + 1) w4 ((((((w4.setCell ⟨w.heap.size + 1 + 1, 0, none⟩ (.int .i64 sk')).setCell ⟨w.heap.size + 1 + 1, 1, none⟩ (.int .i64 nw')).setCell ⟨w.heap.size + 1 + 1, 2, none⟩ (.slice (some ⟨g1, 0, none⟩) m k1)).setCell ⟨w.heap.size + 1 + 1, 3, none⟩ (.int .i64 ho')).setCell ⟨w.heap.size + 1 + 1, 4, none⟩ (.int .i64 un')).setCell ⟨w.heap.size + 1 + 1, 5, none⟩ (.slice (some ⟨g2, 0, none⟩) m k2))) := Hid.intro (set6 w4 (w.heap.size + 1 + 1) _ _ _ _ _ _)
    go_wp2_with fail
    exact bodyPost_ret (v := .tuple #[.agg #[.int .i64 sk', .int .i64 nw', .slice (some ⟨g1, 0, none⟩) m k1, .int .i64 ho', .int .i64 un', .slice (some ⟨g2, 0, none⟩) m k2], .bool true]) (by simp [results, Try.results16, go_sem, *]) rfl (LsP.done HS.out (HF.out.2.1.turn hse.out (fun e => by have e : g1 = w.heap.size + 1 + 1 := e; have := H12.out; omega)) (HF.out.2.2.1.turn hse.out (fun e => by have e : g2 = w.heap.size + 1 + 1 := e; have := H12.out; omega)) HF.out.2.2.2.1 (by have := H12.out; omega) (by have := H12.out; omega) (HX4.out.2.trans (hse.out.below (fun k e => by have e : k = w.heap.size + 1 + 1 := e; omega) HX4.out.2.size)))


set_option maxRecDepth 100000 in
set_option maxHeartbeats 4000000 in
theorem l11Own_n (cs : List Value) (sk nw : Int) (cl : List (Sh.T .int)) (ho un : Int) (kn : List (Sh.T .int)) (w : World) (hz : szD shLeases (sk, nw, cl, ho, un, kn, ()) ≤ 1073741824) (h : Lies w shLeases cs (sk, nw, cl, ho, un, kn, ())) :
    Calls Try.prog 43 #[.agg cs.toArray] w (ToX tyLeases (sk, nw, cl, ho, un, kn, ()) w) := by
  obtain ⟨a1, c1, a2, c2, rfl, h1, h2⟩ := lies_Leases h
  have HL : Hid (Lies w (.list .int) [.slice a1 cl.length c1] cl ∧ Lies w (.list .int) [.slice a2 kn.length c2] kn) := ⟨h1, h2⟩
  have hz1 := (le_sizes hz).1
  have hz2 := (le_sizes hz).2
  clear h h1 h2 hz
  obtain ⟨i0, hi0, hy0, hy1, hy2⟩ := info_parts inf_int
  obtain ⟨w0, hw0⟩ : ∃ x, x = (w.alloc (.cells #[.int .i64 sk, .int .i64 nw, .slice a1 cl.length c1, .int .i64 ho, .int .i64 un, .slice a2 kn.length c2] 28)).alloc (.cells #[.int .i64 0, .int .i64 0, .slice none 0 0, .int .i64 0, .int .i64 0, .slice none 0 0] 28) := ⟨_, rfl⟩
  have hw0z : w0.heap.size = w.heap.size + 1 + 1 := by rw [hw0]; simp
  have HI : Hid (Bx w0 w.heap.size [.int .i64 sk, .int .i64 nw, .slice a1 cl.length c1, .int .i64 ho, .int .i64 un, .slice a2 kn.length c2] ∧ Bx w0 (w.heap.size + 1) [.int .i64 0, .int .i64 0, .slice none 0 0, .int .i64 0, .int .i64 0, .slice none 0 0] ∧ Below w.heap.size w w0) := ⟨hw0 ▸ (Bx.new w [_, _, _, _, _, _] _).alloc _, hw0 ▸ Bx.newAt (by simp), hw0 ▸ ((Below.refl _ _).alloc (Nat.le_refl _) _).alloc (by simp) _⟩
  have HM : Hid (ApS .int 3 w0 (w0.alloc (.cells #[] 3)) (.slice (some ⟨w.heap.size + 1 + 1, 0, none⟩) 0 0) [] ∧ w0.heap.size = w.heap.size + 1 + 1) := ⟨by have := ApS.made (e := .int) (t := 3) (w := w0) rfl; rwa [hw0z] at this, hw0z⟩
  have hbA : 0 + cl.length ≤ maxLen := by unfold maxLen; omega
  have hcA : (0 + cl.length) * 8 ≤ 140737488355328 := by omega
  have hbB : 0 + kn.length ≤ maxLen := by unfold maxLen; omega
  have hcB : (0 + kn.length) * 8 ≤ 140737488355328 := by omega
  clear hw0z
  go_enter Try.func43, Try.ntmps43
  go_wp2_with (first
    | (at_builtin; rw [← hw0]; refine wpList_appx rfl (.tmp 3) (.tmp 5) 26 3 rfl i0 (.int .i64 0) 8 w0.heap.size .int rfl Try.underlying26 hi0 hy0 hy1 hy2 rfl (by decide) (.slice (some ⟨w.heap.size + 1 + 1, 0, none⟩) 0 0) [] cl _ rfl HM.out.1.1 a1 c1 rfl (HL.out.1.next (below_next HI.out.2.2 HM.out.1.2)) hbA hcA HM.out.1.2.size ?_; intro v1 w1 hO1 hg1 hwh1; have H1 : Hid (ApS .int 3 w0 w1 v1 cl) := Hid.intro (ApS.app (e := .int) (l2 := cl) rfl HM.out.1 hO1 hg1); have HB1 := Hid.intro (HI.out.1.next H1.out.2); have HR1 := Hid.intro (HI.out.2.1.next H1.out.2); have s0 := HB1.out.cell 0 rfl; have s1 := HB1.out.cell 1 rfl; have s2 := HB1.out.cell 2 rfl; have s3 := HB1.out.cell 3 rfl; have s4 := HB1.out.cell 4 rfl; have s5 := HB1.out.cell 5 rfl; have sz := HB1.out.2; have sf2 := HB1.out.frz 2 (by simp); have sf5 := HB1.out.frz 5 (by simp); obtain ⟨q1, d1, hvE⟩ := OwnX.vform H1.out.1; (have hvE : v1 = .slice q1 (List.length (α := Sh.T .int) cl) d1 := hvE); subst hvE; have HM2 : Hid (ApS .int 3 (w1.setCell ⟨w.heap.size, 2, none⟩ (.slice q1 cl.length d1)) ((w1.setCell ⟨w.heap.size, 2, none⟩ (.slice q1 cl.length d1)).alloc (.cells #[] 3)) (.slice (some ⟨w1.heap.size, 0, none⟩) 0 0) []) := Hid.intro (by have := ApS.made (e := .int) (t := 3) (w := (w1.setCell ⟨w.heap.size, 2, none⟩ (.slice q1 cl.length d1))) rfl; rwa [World.size_setCell] at this); have HB2 : Hid (Bx (w1.setCell ⟨w.heap.size, 2, none⟩ (.slice q1 cl.length d1)) w.heap.size [.int .i64 sk, .int .i64 nw, .slice q1 cl.length d1, .int .i64 ho, .int .i64 un, .slice a2 kn.length c2] ∧ Bx (w1.setCell ⟨w.heap.size, 2, none⟩ (.slice q1 cl.length d1)) (w.heap.size + 1) [.int .i64 0, .int .i64 0, .slice none 0 0, .int .i64 0, .int .i64 0, .slice none 0 0] ∧ Below w.heap.size w (w1.setCell ⟨w.heap.size, 2, none⟩ (.slice q1 cl.length d1))) := ⟨HB1.out.set (k := 2) (by simp) _, HR1.out.other (by omega), (below_next HI.out.2.2 H1.out.2).setCell (p := ⟨w.heap.size, 2, none⟩) (Nat.le_refl _) _⟩; clear hO1 hg1 hwh1 HB1 HR1)
    | (at_builtin; refine wpList_appx rfl (.tmp 8) (.tmp 10) 26 3 rfl i0 (.int .i64 0) 8 (w1.setCell ⟨w.heap.size, 2, none⟩ (.slice q1 cl.length d1)).heap.size .int rfl Try.underlying26 hi0 hy0 hy1 hy2 rfl (by decide) (.slice (some ⟨w1.heap.size, 0, none⟩) 0 0) [] kn _ rfl HM2.out.1 a2 c2 rfl (HL.out.2.next (below_next HB2.out.2.2 HM2.out.2)) hbB hcB HM2.out.2.size ?_; intro v2 w3 hO3 hg3 hwh3; have H3 : Hid (ApS .int 3 (w1.setCell ⟨w.heap.size, 2, none⟩ (.slice q1 cl.length d1)) w3 v2 kn) := Hid.intro (ApS.app (e := .int) (l2 := kn) rfl HM2.out hO3 hg3); have HB3 := Hid.intro (HB2.out.1.next H3.out.2); have HR3 := Hid.intro (HB2.out.2.1.next H3.out.2); clear s0 s1 s2 s3 s4 s5 sz sf2 sf5; have s0 := HB3.out.cell 0 rfl; have s1 := HB3.out.cell 1 rfl; have s2 := HB3.out.cell 2 rfl; have s3 := HB3.out.cell 3 rfl; have s4 := HB3.out.cell 4 rfl; have s5 := HB3.out.cell 5 rfl; have sz := HB3.out.2; have sf5 := HB3.out.frz 5 (by simp); have r0 := HR3.out.cell 0 rfl; have r1 := HR3.out.cell 1 rfl; have r2 := HR3.out.cell 2 rfl; have r3 := HR3.out.cell 3 rfl; have r4 := HR3.out.cell 4 rfl; have r5 := HR3.out.cell 5 rfl; have rz := HR3.out.2; have rf0 := HR3.out.frz 0 (by simp); have rf1 := HR3.out.frz 1 (by simp); have rf2 := HR3.out.frz 2 (by simp); have rf3 := HR3.out.frz 3 (by simp); have rf4 := HR3.out.frz 4 (by simp); have rf5 := HR3.out.frz 5 (by simp); obtain ⟨q2, d2, hvE⟩ := OwnX.vform H3.out.1; (have hvE : v2 = .slice q2 (List.length (α := Sh.T .int) kn) d2 := hvE); subst hvE; clear hO3 hg3 hwh3)
    | go_in)
  refine bodyPost_ret (v := .agg #[.int .i64 sk, .int .i64 nw, .slice q1 cl.length d1, .int .i64 ho, .int .i64 un, .slice q2 kn.length d2]) (by simp [results, Try.results43, go_sem, *]) rfl ⟨[.int .i64 sk, .int .i64 nw, .slice q1 cl.length d1, .int .i64 ho, .int .i64 un, .slice q2 kn.length d2], rfl, ?_, ?_⟩
  · refine cloned_x (w := w) (z := w0.heap.size) (W := (w1.setCell ⟨w.heap.size, 2, none⟩ (.slice q1 cl.length d1))) (W' := w3) (S := fun k => k = w.heap.size ∨ k = w.heap.size + 1) ?_ H3.out.1 H3.out.2 ?_ ?_ ?_ ?_
    · rw [World.size_setCell]; exact H1.out.1.set (p := ⟨w.heap.size, 2, none⟩) (fun q => by have := HM.out.2; simp only [Btw] at q; omega) _
    · rw [World.size_setCell]; exact H1.out.2.size
    · have := HM.out.2; omega
    · exact ((TurnS.refl (fun k => k = w.heap.size ∨ k = w.heap.size + 1) w3).set (S := fun k => k = w.heap.size ∨ k = w.heap.size + 1) (p := ⟨w.heap.size, 5, none⟩) (Or.inl rfl) _).trans ((set6 _ (w.heap.size + 1) _ _ _ _ _ _).wide (fun k e => Or.inr e))
    · intro k e; have := HM.out.2; omega
  · exact ((below_next HB2.out.2.2 H3.out.2).setCell (p := ⟨w.heap.size, 5, none⟩) (Nat.le_refl _) _).trans ((set6 _ (w.heap.size + 1) _ _ _ _ _ _).below (fun k e => by have e : k = w.heap.size + 1 := e; omega) (by have := (below_next HB2.out.2.2 H3.out.2).size; simp only [World.size_setCell]; exact this))

end Go.Proofs.Ytidalpgkljafdaa
