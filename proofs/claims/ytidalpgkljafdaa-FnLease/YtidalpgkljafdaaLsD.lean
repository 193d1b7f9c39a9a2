/- Leases: spec.l11Step. Written by tools/mkLsD.py. -/
import Derived.Test.YtidalpgkljafdaaLsC
namespace Go.Proofs.Ytidalpgkljafdaa
open Go.RowKit
set_option linter.unusedVariables false
set_option linter.unusedSimpArgs false

/-- What the specification's step leaves: the lists' blocks stay, whatever the answer is. -/
def L1P (o : Option (Sh.T shLeases)) (w : World) (lo g1 k1 g2 k2 m : Nat) (r : Ending) (w' : World) : Prop :=
  ∃ (sk' nw' : Int) (cl' : List (Sh.T .int)) (ho' un' : Int) (kn' : List (Sh.T .int)), r = .returned (.tuple #[.agg #[.int .i64 sk', .int .i64 nw', .slice (some ⟨g1, 0, none⟩) m k1, .int .i64 ho', .int .i64 un', .slice (some ⟨g2, 0, none⟩) m k2], .bool o.isSome]) ∧ TurnS (fun k => k = g1 ∨ k = g2) w w' ∧ Rw 3 w' lo g1 k1 cl' m ∧ Rw 3 w' lo g2 k2 kn' m ∧ ∀ y : Sh.T shLeases, o = some y → y = mkLe sk' nw' cl' ho' un' kn'
theorem TurnS.new {S : Nat → Prop} {w W W' : World} {z : Nat} (h : TurnS S w W) (ht : TurnS (fun k => k = z) W W') (hz : w.heap.size ≤ z) : TurnS S w W' :=
  ⟨ht.1.trans h.1, ht.2.1.trans h.2.1, ht.2.2.1.trans h.2.2.1, Nat.le_trans h.2.2.2.1 ht.2.2.2.1, fun k hk hs => (ht.2.2.2.2 k (Nat.lt_of_lt_of_le hk h.2.2.2.1) (fun e => by have e : k = z := e; omega)).trans (h.2.2.2.2 k hk hs)⟩
theorem L1P.end' {o : Option (Sh.T shLeases)} {w W W' : World} {lo g1 k1 g2 k2 m c : Nat} {sk' nw' : Int} {cl' : List (Sh.T .int)} {ho' un' : Int} {kn' : List (Sh.T .int)} {z : Bool} (hx : LxS W lo w.heap.size sk' nw' g1 k1 cl' ho' un' g2 k2 kn' m) (ht : TurnS (fun k => k = g1 ∨ k = g2) w W) (hz : z = o.isSome) (hy : ∀ y : Sh.T shLeases, o = some y → y = mkLe sk' nw' cl' ho' un' kn') (hs : TurnS (fun k => k = c) W W') (hc : w.heap.size ≤ c) (h1 : g1 ≠ c) (h2 : g2 ≠ c) :
    L1P o w lo g1 k1 g2 k2 m (.returned (.tuple #[.agg #[.int .i64 sk', .int .i64 nw', .slice (some ⟨g1, 0, none⟩) m k1, .int .i64 ho', .int .i64 un', .slice (some ⟨g2, 0, none⟩) m k2], .bool z])) W' :=
  ⟨sk', nw', cl', ho', un', kn', by rw [hz], ht.new hs hc, hx.2.1.turn hs h1, hx.2.2.1.turn hs h2, hy⟩
theorem time_out {sk nw : Int} {cl : List (Sh.T .int)} {ho un : Int} {kn : List (Sh.T .int)} {n : Int} (hg : goodL sk nw cl ho un kn) (hn : 1 ≤ n ∧ n ≤ 1000000) : tf (goodL sk (nw + n) cl ho un kn) = (leTime sk nw cl ho un kn n).isSome ∧ ∀ y : Sh.T shLeases, leTime sk nw cl ho un kn n = some y → y = mkLe sk (nw + n) cl ho un kn := by
  by_cases c : (1 ≤ n ∧ n ≤ 1000000 - nw) ∧ ∀ i, i < cl.length → nearB sk (nw + n) (atI cl i) = true
  · rw [tf_yes ((good_time hg hn).2 c), leTime_yes c]; exact ⟨rfl, fun y q => (Option.some.inj q).symm⟩
  · rw [tf_no (fun q => c ((good_time hg hn).1 q)), leTime_no c]; exact ⟨rfl, fun y q => by cases q⟩
theorem tick_out {sk nw : Int} {cl : List (Sh.T .int)} {ho un : Int} {kn : List (Sh.T .int)} {n : Int} {k : Nat} (hg : goodL sk nw cl ho un kn) (hn : -1000 ≤ n ∧ n ≤ 1000000) (hk : k < cl.length) : tf (goodL sk nw (cl.set k (atI cl k + n)) ho un kn) = (leTick sk nw cl ho un kn (k : Int) n).isSome ∧ ∀ y : Sh.T shLeases, leTick sk nw cl ho un kn (k : Int) n = some y → y = mkLe sk nw (cl.set k (atI cl k + n)) ho un kn := by
  by_cases c : nearB sk nw (atI cl k + n) = true
  · rw [tf_yes ((good_tick hg hk).2 c), leTick_yes ⟨by omega, hn, c⟩]; exact ⟨rfl, fun y q => (Option.some.inj q).symm⟩
  · rw [tf_no (fun q => c ((good_tick hg hk).1 q)), leTick_no (fun q => c q.2.2)]; exact ⟨rfl, fun y q => by cases q⟩


set_option maxRecDepth 100000 in
set_option maxHeartbeats 4000000 in
theorem l11Step3_n (lo : Nat) (sk nw : Int) (g1 k1 : Nat) (cl : List (Sh.T .int)) (ho un : Int) (g2 k2 : Nat) (kn : List (Sh.T .int)) (m : Nat) (b n : Int) (w : World)  (hg : goodL sk nw cl ho un kn) (r1 : Rw 3 w lo g1 k1 cl m) (r2 : Rw 3 w lo g2 k2 kn m) (hne : g1 ≠ g2) :
    Calls Try.prog 42 #[.agg #[.int .i64 sk, .int .i64 nw, .slice (some ⟨g1, 0, none⟩) m k1, .int .i64 ho, .int .i64 un, .slice (some ⟨g2, 0, none⟩) m k2], .agg #[.int .i64 3, .int .i64 b, .int .i64 n]] w (L1P (leTime sk nw cl ho un kn n) w lo g1 k1 g2 k2 m) := by
  have HG := Hid.intro hg
  have HM : Hid (cl.length = m ∧ kn.length = m) := ⟨r1.2, r2.2⟩
  have hm12 : m ≤ 12 := by have h1 := hg.2.2.2.1; rw [r1.2] at h1; omega
  have hm30 : m ≤ 1073741824 := by omega
  have hnw1 := hg.2.1.1
  have hnw2 := hg.2.1.2
  have hun1 := hg.2.2.1.1
  have hun2 := hg.2.2.1.2
  obtain ⟨w0, hw0⟩ : ∃ x, x = ((w.alloc (.cells #[.int .i64 sk, .int .i64 nw, .slice (some ⟨g1, 0, none⟩) m k1, .int .i64 ho, .int .i64 un, .slice (some ⟨g2, 0, none⟩) m k2] 28)).alloc (.cells #[.int .i64 3, .int .i64 b, .int .i64 n] 34)).alloc (.cells #[.int .i64 0, .int .i64 0, .slice none 0 0, .int .i64 0, .int .i64 0, .slice none 0 0] 28) := ⟨_, rfl⟩
  have hb0 : Below w.heap.size w w0 := hw0 ▸ (((Below.refl _ _).alloc (Nat.le_refl _) _).alloc (by simp) _).alloc (by simp; omega) _
  have HX : Hid (LxS w0 lo w.heap.size sk nw g1 k1 cl ho un g2 k2 kn m ∧ Bx w0 (w.heap.size + 1) [.int .i64 3, .int .i64 b, .int .i64 n] ∧ Bx w0 (w.heap.size + 1 + 1) [.int .i64 0, .int .i64 0, .slice none 0 0, .int .i64 0, .int .i64 0, .slice none 0 0] ∧ Below w.heap.size w w0) :=
    ⟨⟨hw0 ▸ ((Bx.new w [_, _, _, _, _, _] _).alloc _).alloc _, r1.next hb0, r2.next hb0, hne, Nat.ne_of_gt r1.lt.1, Nat.ne_of_gt r2.lt.1⟩, hw0 ▸ (Bx.newAt (by simp)).alloc _, hw0 ▸ Bx.newAt (by simp), hb0⟩
  have hl1 : g1 < w.heap.size := r1.lt.1
  have hl2 : g2 < w.heap.size := r2.lt.1
  have n1 : g1 ≠ w.heap.size + 1 + 1 := by omega
  have n2 : g2 ≠ w.heap.size + 1 + 1 := by omega
  have n3 : g1 ≠ w.heap.size := by omega
  have n4 : g2 ≠ w.heap.size := by omega
  have n5 : w.heap.size ≠ g1 := by omega
  have n6 : w.heap.size ≠ g2 := by omega
  have n7 : g1 ≠ w.heap.size + 1 := by omega
  have n8 : g2 ≠ w.heap.size + 1 := by omega
  have hw0z : Hid (w0.heap.size = w.heap.size + 3) := Hid.intro (by rw [hw0]; simp)
  have s0 := HX.out.1.1.cell 0 rfl
  have s1 := HX.out.1.1.cell 1 rfl
  have s2 := HX.out.1.1.cell 2 rfl
  have s3 := HX.out.1.1.cell 3 rfl
  have s4 := HX.out.1.1.cell 4 rfl
  have s5 := HX.out.1.1.cell 5 rfl
  have sz := HX.out.1.1.2
  have t0 := HX.out.2.1.cell 0 rfl
  have t1 := HX.out.2.1.cell 1 rfl
  have t2 := HX.out.2.1.cell 2 rfl
  have tz := HX.out.2.1.2
  have u0 := HX.out.2.2.1.cell 0 rfl
  have u1 := HX.out.2.2.1.cell 1 rfl
  have u2 := HX.out.2.2.1.cell 2 rfl
  have u3 := HX.out.2.2.1.cell 3 rfl
  have u4 := HX.out.2.2.1.cell 4 rfl
  have u5 := HX.out.2.2.1.cell 5 rfl
  have uz := HX.out.2.2.1.2
  have uf0 := HX.out.2.2.1.frz 0 (by simp)
  have uf1 := HX.out.2.2.1.frz 1 (by simp)
  have uf2 := HX.out.2.2.1.frz 2 (by simp)
  have uf3 := HX.out.2.2.1.frz 3 (by simp)
  have uf4 := HX.out.2.2.1.frz 4 (by simp)
  have uf5 := HX.out.2.2.1.frz 5 (by simp)
  have hpq : Hid (goodL sk nw cl ho un kn) := hg
  clear r1 r2 hne hg hb0
  go_enter Try.func42, Try.ntmps42
  go_upto_region 1 with fail
  rw [← hw0]
  clear hw0
  cases c1 : inR n 1 1000000
  · have HN : Hid (leTime sk nw cl ho un kn n = none) := Hid.intro (leTime_no (fun q => by have h1 := q.1; rw [inR_iff.2 (show 1 ≤ n ∧ n ≤ 1000000 by omega)] at c1; cases c1))
    have HC : Hid (inR n 1 1000000 = false) := c1
    clear c1
    go_wp2_with (go_at_call 55; refine (HC.out ▸ l1In_any n 1 1000000 _).mono ?_; rintro e w' ⟨rfl, hw'⟩; have hw' := hw'.symm; subst hw'; clear HC)
    exact bodyPost_ret (v := .tuple #[.agg #[.int .i64 sk, .int .i64 nw, .slice (some ⟨g1, 0, none⟩) m k1, .int .i64 ho, .int .i64 un, .slice (some ⟨g2, 0, none⟩) m k2], .bool false]) (by simp [results, Try.results42, go_sem, *]) rfl (L1P.end' HX.out.1 (TurnS.of_below HX.out.2.2.2) (by rw [HN.out]; rfl) (fun y q => by rw [HN.out] at q; cases q) (set6 w0 (w.heap.size + 1 + 1) _ _ _ _ _ _) (by omega) n1 n2)
  have HC : Hid (inR n 1 1000000 = true) := c1
  have hn12 := inR_iff.1 c1
  obtain ⟨z, hzE⟩ : ∃ z, tf (goodL sk (nw + n) cl ho un kn) = z := ⟨_, rfl⟩
  have HZ := Hid.intro hzE
  have HO : Hid (z = (leTime sk nw cl ho un kn n).isSome ∧ ∀ y : Sh.T shLeases, leTime sk nw cl ho un kn n = some y → y = mkLe sk (nw + n) cl ho un kn) := Hid.intro (hzE ▸ time_out HG.out hn12)
  have HSZ : Hid (szD shLeases (sk, nw + n, cl, ho, un, kn, ()) ≤ 1073741824) := Hid.intro (by rw [sz_lea]; (try simp only [List.length_set]); have := HM.out; omega)
  obtain ⟨hn1, hn2⟩ := hn12
  have sf1 := HX.out.1.1.frz 1 (by simp)
  clear c1 hzE
  obtain ⟨w1, hw1⟩ : ∃ x, x = w0.setCell ⟨w.heap.size, 1, none⟩ (.int .i64 (nw + n)) := ⟨_, rfl⟩
  have HY : Hid (LxS w1 lo w.heap.size sk (nw + n) g1 k1 cl ho un g2 k2 kn m ∧ Bx w1 (w.heap.size + 1 + 1) [.int .i64 0, .int .i64 0, .slice none 0 0, .int .i64 0, .int .i64 0, .slice none 0 0] ∧ TurnS (fun k => k = g1 ∨ k = g2) w w1) := Hid.intro (by
    rw [hw1]
    exact ⟨HX.out.1.setN _, HX.out.2.2.1.other (by omega), (TurnS.of_below HX.out.2.2.2).new (turn_set w0 ⟨w.heap.size, 1, none⟩ _) (Nat.le_refl _)⟩)
  go_upto_region 5 with (go_at_call 55; refine (HC.out ▸ l1In_any n 1 1000000 _).mono ?_; rintro e w' ⟨rfl, hw'⟩; have hw' := hw'.symm; subst hw'; clear HC)
  rw [← hw1]
  clear hw1 s0 s1 s2 s3 s4 s5 sz u0 uf0 u1 uf1 u2 uf2 u3 uf3 u4 uf4 u5 uf5 uz t0 t1 t2 tz sf1
  obtain ⟨nw', hnw⟩ : ∃ y, y = nw + n := ⟨_, rfl⟩
  rw [← hnw] at HY HZ HO HSZ ⊢
  clear hnw
  go_upto_region 5 with fail
  have HY1 : Hid (LxS w1.drew lo w.heap.size sk nw' g1 k1 cl ho un g2 k2 kn m ∧ Bx w1.drew (w.heap.size + 1 + 1) [.int .i64 0, .int .i64 0, .slice none 0 0, .int .i64 0, .int .i64 0, .slice none 0 0] ∧ TurnS (fun k => k = g1 ∨ k = g2) w w1.drew) := ⟨HY.out.1.next (below_drew _), HY.out.2.1.next (below_drew _), HY.out.2.2.next (below_drew _)⟩
  obtain ⟨X, hX⟩ : ∃ y, y = w1.drew := ⟨_, rfl⟩
  rw [← hX] at HY1
  refine wp_region_noPanic ?_
  refine wp_region_held_drew (S := fun W => Bx W w.heap.size [.int .i64 sk, .int .i64 nw', .slice (some ⟨g1, 0, none⟩) m k1, .int .i64 ho, .int .i64 un, .slice (some ⟨g2, 0, none⟩) m k2]) (by kernel_rfl) (hX ▸ HY1.out.1.1) (fun hHeld => ?_)
  rw [← hX] at hHeld ⊢
  clear hX
  refine take_v (v := ?_) 0 ⟨some 21, Op.load 28 (Operand.tmp 2), _, _, _, none⟩ rfl (fun _ _ _ h => h) ?_ hHeld ?_
  rotate_left
  · (intro W hSW; (have s0 := hSW.cell 0 rfl; have s1 := hSW.cell 1 rfl; have s2 := hSW.cell 2 rfl; have s3 := hSW.cell 3 rfl; have s4 := hSW.cell 4 rfl; have s5 := hSW.cell 5 rfl; have sz := hSW.2); go_simp <;> (try with_reducible rfl))
  refine take_v (v := ?_) 1 ⟨some 22, Op.load 28 (Operand.tmp 2), _, _, _, none⟩ rfl (fun _ _ _ h => h) ?_ hHeld ?_
  rotate_left
  · (intro W hSW; (have s0 := hSW.cell 0 rfl; have s1 := hSW.cell 1 rfl; have s2 := hSW.cell 2 rfl; have s3 := hSW.cell 3 rfl; have s4 := hSW.cell 4 rfl; have s5 := hSW.cell 5 rfl; have sz := hSW.2); go_simp <;> (try with_reducible rfl))
  refine ready_call 2 ⟨some 23, Op.call { callee := Callee.value (Operand.func 27), args := #[Operand.tmp 22], argTypes := #[28] }, _, _, _, none⟩ (by kernel_rfl) rfl (by kernel_rfl) (fun KC hK => ?_)
  go_wp2_with fail
  refine (HZ.out ▸ specGoodLeases_n [.int .i64 sk, .int .i64 nw', .slice (some ⟨g1, 0, none⟩) m k1, .int .i64 ho, .int .i64 un, .slice (some ⟨g2, 0, none⟩) m k2] sk nw' cl ho un kn _ HSZ.out (LeL.lies HY1.out.1.lel)).mono ?_
  rintro r X2 ⟨rfl, hb⟩
  have HY2 : Hid (LxS X2 lo w.heap.size sk nw' g1 k1 cl ho un g2 k2 kn m ∧ Bx X2 (w.heap.size + 1 + 1) [.int .i64 0, .int .i64 0, .slice none 0 0, .int .i64 0, .int .i64 0, .slice none 0 0] ∧ TurnS (fun k => k = g1 ∨ k = g2) w X2) := ⟨HY1.out.1.next hb, HY1.out.2.1.next hb, HY1.out.2.2.next hb⟩
  clear hb
  refine hK.out _ _ HY2.out.1.1 (fun hHeld => ?_)
  clear hK KC
  refine ready_call 3 ⟨none, Op.store 28 (Operand.tmp 4) (Operand.tmp 21), _, _, _, none⟩ (by kernel_rfl) rfl (by kernel_rfl) (fun KC hK => ?_)
  have u0 := HY2.out.2.1.cell 0 rfl
  have u1 := HY2.out.2.1.cell 1 rfl
  have u2 := HY2.out.2.1.cell 2 rfl
  have u3 := HY2.out.2.1.cell 3 rfl
  have u4 := HY2.out.2.1.cell 4 rfl
  have u5 := HY2.out.2.1.cell 5 rfl
  have uz := HY2.out.2.1.2
  have uf0 := HY2.out.2.1.frz 0 (by simp)
  have uf1 := HY2.out.2.1.frz 1 (by simp)
  have uf2 := HY2.out.2.1.frz 2 (by simp)
  have uf3 := HY2.out.2.1.frz 3 (by simp)
  have uf4 := HY2.out.2.1.frz 4 (by simp)
  have uf5 := HY2.out.2.1.frz 5 (by simp)
  go_wp2_with fail
  refine hK.out _ _ ((((((hHeld.other (by omega)).other (by omega)).other (by omega)).other (by omega)).other (by omega)).other (by omega)) (fun hHeld => ?_)
  clear hK KC
  refine take_v (v := ?_) 4 ⟨some 5, Op.assign (Operand.tmp 23), _, _, _, none⟩ rfl (fun _ _ _ h => h) ?_ hHeld ?_
  rotate_left
  · (intro W _; go_simp <;> (try with_reducible rfl))
  refine wpAnyH_done (by kernel_rfl) ?_ _
  refine NoPanic.normal ?_
  clear hHeld
  go_wp2_with fail
  exact bodyPost_ret (v := .tuple #[.agg #[.int .i64 sk, .int .i64 nw', .slice (some ⟨g1, 0, none⟩) m k1, .int .i64 ho, .int .i64 un, .slice (some ⟨g2, 0, none⟩) m k2], .bool z]) (by simp [results, Try.results42, go_sem, *]) rfl (L1P.end' HY2.out.1 HY2.out.2.2 HO.out.1 HO.out.2 (set6 X2 (w.heap.size + 1 + 1) _ _ _ _ _ _) (by omega) n1 n2)


set_option maxRecDepth 100000 in
set_option maxHeartbeats 4000000 in
theorem l11Step1_n (lo : Nat) (sk nw : Int) (g1 k1 : Nat) (cl : List (Sh.T .int)) (ho un : Int) (g2 k2 : Nat) (kn : List (Sh.T .int)) (m : Nat) (b n : Int) (w : World)  (hg : goodL sk nw cl ho un kn) (r1 : Rw 3 w lo g1 k1 cl m) (r2 : Rw 3 w lo g2 k2 kn m) (hne : g1 ≠ g2) :
    Calls Try.prog 42 #[.agg #[.int .i64 sk, .int .i64 nw, .slice (some ⟨g1, 0, none⟩) m k1, .int .i64 ho, .int .i64 un, .slice (some ⟨g2, 0, none⟩) m k2], .agg #[.int .i64 1, .int .i64 b, .int .i64 n]] w (L1P (leGrant sk nw cl ho un kn b n) w lo g1 k1 g2 k2 m) := by
  have HG := Hid.intro hg
  have HM : Hid (cl.length = m ∧ kn.length = m) := ⟨r1.2, r2.2⟩
  have hm12 : m ≤ 12 := by have h1 := hg.2.2.2.1; rw [r1.2] at h1; omega
  have hm30 : m ≤ 1073741824 := by omega
  have hnw1 := hg.2.1.1
  have hnw2 := hg.2.1.2
  have hun1 := hg.2.2.1.1
  have hun2 := hg.2.2.1.2
  obtain ⟨w0, hw0⟩ : ∃ x, x = ((w.alloc (.cells #[.int .i64 sk, .int .i64 nw, .slice (some ⟨g1, 0, none⟩) m k1, .int .i64 ho, .int .i64 un, .slice (some ⟨g2, 0, none⟩) m k2] 28)).alloc (.cells #[.int .i64 1, .int .i64 b, .int .i64 n] 34)).alloc (.cells #[.int .i64 0, .int .i64 0, .slice none 0 0, .int .i64 0, .int .i64 0, .slice none 0 0] 28) := ⟨_, rfl⟩
  have hb0 : Below w.heap.size w w0 := hw0 ▸ (((Below.refl _ _).alloc (Nat.le_refl _) _).alloc (by simp) _).alloc (by simp; omega) _
  have HX : Hid (LxS w0 lo w.heap.size sk nw g1 k1 cl ho un g2 k2 kn m ∧ Bx w0 (w.heap.size + 1) [.int .i64 1, .int .i64 b, .int .i64 n] ∧ Bx w0 (w.heap.size + 1 + 1) [.int .i64 0, .int .i64 0, .slice none 0 0, .int .i64 0, .int .i64 0, .slice none 0 0] ∧ Below w.heap.size w w0) :=
    ⟨⟨hw0 ▸ ((Bx.new w [_, _, _, _, _, _] _).alloc _).alloc _, r1.next hb0, r2.next hb0, hne, Nat.ne_of_gt r1.lt.1, Nat.ne_of_gt r2.lt.1⟩, hw0 ▸ (Bx.newAt (by simp)).alloc _, hw0 ▸ Bx.newAt (by simp), hb0⟩
  have hl1 : g1 < w.heap.size := r1.lt.1
  have hl2 : g2 < w.heap.size := r2.lt.1
  have n1 : g1 ≠ w.heap.size + 1 + 1 := by omega
  have n2 : g2 ≠ w.heap.size + 1 + 1 := by omega
  have n3 : g1 ≠ w.heap.size := by omega
  have n4 : g2 ≠ w.heap.size := by omega
  have n5 : w.heap.size ≠ g1 := by omega
  have n6 : w.heap.size ≠ g2 := by omega
  have n7 : g1 ≠ w.heap.size + 1 := by omega
  have n8 : g2 ≠ w.heap.size + 1 := by omega
  have hw0z : Hid (w0.heap.size = w.heap.size + 3) := Hid.intro (by rw [hw0]; simp)
  have s0 := HX.out.1.1.cell 0 rfl
  have s1 := HX.out.1.1.cell 1 rfl
  have s2 := HX.out.1.1.cell 2 rfl
  have s3 := HX.out.1.1.cell 3 rfl
  have s4 := HX.out.1.1.cell 4 rfl
  have s5 := HX.out.1.1.cell 5 rfl
  have sz := HX.out.1.1.2
  have t0 := HX.out.2.1.cell 0 rfl
  have t1 := HX.out.2.1.cell 1 rfl
  have t2 := HX.out.2.1.cell 2 rfl
  have tz := HX.out.2.1.2
  have u0 := HX.out.2.2.1.cell 0 rfl
  have u1 := HX.out.2.2.1.cell 1 rfl
  have u2 := HX.out.2.2.1.cell 2 rfl
  have u3 := HX.out.2.2.1.cell 3 rfl
  have u4 := HX.out.2.2.1.cell 4 rfl
  have u5 := HX.out.2.2.1.cell 5 rfl
  have uz := HX.out.2.2.1.2
  have uf0 := HX.out.2.2.1.frz 0 (by simp)
  have uf1 := HX.out.2.2.1.frz 1 (by simp)
  have uf2 := HX.out.2.2.1.frz 2 (by simp)
  have uf3 := HX.out.2.2.1.frz 3 (by simp)
  have uf4 := HX.out.2.2.1.frz 4 (by simp)
  have uf5 := HX.out.2.2.1.frz 5 (by simp)
  have hpq : Hid (goodL sk nw cl ho un kn) := hg
  clear r1 r2 hne hg hb0
  go_enter Try.func42, Try.ntmps42
  go_upto_region 1 with fail
  rw [← hw0]
  clear hw0
  cases c1 : inR b 0 ((m : Int) - 1)
  · have HN : Hid (leGrant sk nw cl ho un kn b n = none) := Hid.intro (leGrant_no (fun q => by have h1 := q.1; rw [HM.out.1] at h1; rw [inR_iff.2 h1] at c1; cases c1))
    have HC : Hid (inR b 0 ((m : Int) - 1) = false) := c1
    clear c1
    go_wp2_with (go_at_call 55; refine (HC.out ▸ l1In_any b 0 ((m : Int) - 1) _).mono ?_; rintro e w' ⟨rfl, hw'⟩; have hw' := hw'.symm; subst hw'; clear HC)
    exact bodyPost_ret (v := .tuple #[.agg #[.int .i64 sk, .int .i64 nw, .slice (some ⟨g1, 0, none⟩) m k1, .int .i64 ho, .int .i64 un, .slice (some ⟨g2, 0, none⟩) m k2], .bool false]) (by simp [results, Try.results42, go_sem, *]) rfl (L1P.end' HX.out.1 (TurnS.of_below HX.out.2.2.2) (by rw [HN.out]; rfl) (fun y q => by rw [HN.out] at q; cases q) (set6 w0 (w.heap.size + 1 + 1) _ _ _ _ _ _) (by omega) n1 n2)
  have HC : Hid (inR b 0 ((m : Int) - 1) = true) := c1
  have hb12 := inR_iff.1 c1
  clear c1
  cases c2 : inR n 1 1000000
  · have HN : Hid (leGrant sk nw cl ho un kn b n = none) := Hid.intro (leGrant_no (fun q => by rw [inR_iff.2 q.2.1] at c2; cases c2))
    have HC2 : Hid (inR n 1 1000000 = false) := c2
    clear c2
    go_wp2_with (first | (go_at_call 55; refine (HC.out ▸ l1In_any b 0 ((m : Int) - 1) _).mono ?_; rintro e w' ⟨rfl, hw'⟩; have hw' := hw'.symm; subst hw'; clear HC) | (go_at_call 55; refine (HC2.out ▸ l1In_any n 1 1000000 _).mono ?_; rintro e w' ⟨rfl, hw'⟩; have hw' := hw'.symm; subst hw'; clear HC2))
    exact bodyPost_ret (v := .tuple #[.agg #[.int .i64 sk, .int .i64 nw, .slice (some ⟨g1, 0, none⟩) m k1, .int .i64 ho, .int .i64 un, .slice (some ⟨g2, 0, none⟩) m k2], .bool false]) (by simp [results, Try.results42, go_sem, *]) rfl (L1P.end' HX.out.1 (TurnS.of_below HX.out.2.2.2) (by rw [HN.out]; rfl) (fun y q => by rw [HN.out] at q; cases q) (set6 w0 (w.heap.size + 1 + 1) _ _ _ _ _ _) (by omega) n1 n2)
  have HC2 : Hid (inR n 1 1000000 = true) := c2
  have hn12 := inR_iff.1 c2
  have hbc : 0 ≤ b ∧ b ≤ (cl.length : Int) - 1 := by rw [HM.out.1]; exact hb12
  obtain ⟨hn1, hn2⟩ := hn12
  clear c2
  by_cases c3 : b = ho
  · have HN0 := leGrant_yes (sk := sk) (nw := nw) (cl := cl) (ho := ho) (un := un) (kn := kn) (b := b) (n := n) ⟨hbc, ⟨hn1, hn2⟩, Or.inl c3⟩
    have HGB := Hid.intro (good_grant (b := b) (n := n) HG.out ⟨hbc, ⟨hn1, hn2⟩, Or.inl c3⟩)
    by_cases c5 : nw + n < un
    · have HU : Hid (grU nw ho un b n = un) := Hid.intro (by unfold grU; rw [if_pos c3]; omega)
      have HN : Hid (leGrant sk nw cl ho un kn b n = some (mkLe sk nw cl b (un) kn)) := Hid.intro (by rw [HN0, HU.out])
      clear HN0 hbc
      subst c3
      have HO : Hid (true = (leGrant sk nw cl b un kn b n).isSome ∧ ∀ y : Sh.T shLeases, leGrant sk nw cl b un kn b n = some y → y = mkLe sk nw cl b (un) kn) := Hid.intro (by rw [HN.out]; exact ⟨rfl, fun y q => (Option.some.inj q).symm⟩)
      have HGG : Hid (goodL sk nw cl b (un) kn) := Hid.intro (by have h1 := HGB.out; rw [HU.out] at h1; exact h1)
      skip
      obtain ⟨z, hzE⟩ : ∃ z, z = true := ⟨_, rfl⟩
      have HZ : Hid (tf (goodL sk nw cl b (un) kn) = z) := Hid.intro (by rw [hzE]; exact tf_yes HGG.out)
      rw [← hzE] at HO
      have HSZ : Hid (szD shLeases (sk, nw, cl, b, un, kn, ()) ≤ 1073741824) := Hid.intro (by rw [sz_lea]; (try simp only [List.length_set]); have := HM.out; omega)
      have sf3 := HX.out.1.1.frz 3 (by simp)
      have sf4 := HX.out.1.1.frz 4 (by simp)
      clear hzE
      obtain ⟨w1, hw1⟩ : ∃ x, x = (w0.setCell ⟨w.heap.size, 3, none⟩ (.int .i64 b)).setCell ⟨w.heap.size, 4, none⟩ (.int .i64 (un)) := ⟨_, rfl⟩
      have HY : Hid (LxS w1 lo w.heap.size sk nw g1 k1 cl b (un) g2 k2 kn m ∧ Bx w1 (w.heap.size + 1 + 1) [.int .i64 0, .int .i64 0, .slice none 0 0, .int .i64 0, .int .i64 0, .slice none 0 0] ∧ TurnS (fun k => k = g1 ∨ k = g2) w w1) := Hid.intro (by
        rw [hw1]
        exact ⟨(HX.out.1.setH _).setU _, (HX.out.2.2.1.other (by omega)).other (by omega), ((TurnS.of_below HX.out.2.2.2).new (turn_set w0 ⟨w.heap.size, 3, none⟩ _) (Nat.le_refl _)).new (turn_set _ ⟨w.heap.size, 4, none⟩ _) (Nat.le_refl _)⟩)
      go_upto_region 26 with (first | (go_at_call 55; refine (HC.out ▸ l1In_any b 0 ((m : Int) - 1) _).mono ?_; rintro e w' ⟨rfl, hw'⟩; have hw' := hw'.symm; subst hw'; clear HC) | (go_at_call 55; refine (HC2.out ▸ l1In_any n 1 1000000 _).mono ?_; rintro e w' ⟨rfl, hw'⟩; have hw' := hw'.symm; subst hw'; clear HC2))
      rw [← hw1]
      clear hw1 s0 s1 s2 s3 s4 s5 sz u0 uf0 u1 uf1 u2 uf2 u3 uf3 u4 uf4 u5 uf5 uz t0 t1 t2 tz sf3 sf4
      go_upto_region 26 with fail
      have HY1 : Hid (LxS w1.drew lo w.heap.size sk nw g1 k1 cl b un g2 k2 kn m ∧ Bx w1.drew (w.heap.size + 1 + 1) [.int .i64 0, .int .i64 0, .slice none 0 0, .int .i64 0, .int .i64 0, .slice none 0 0] ∧ TurnS (fun k => k = g1 ∨ k = g2) w w1.drew) := ⟨HY.out.1.next (below_drew _), HY.out.2.1.next (below_drew _), HY.out.2.2.next (below_drew _)⟩
      obtain ⟨X, hX⟩ : ∃ y, y = w1.drew := ⟨_, rfl⟩
      rw [← hX] at HY1
      refine wp_region_noPanic ?_
      refine wp_region_held_drew (S := fun W => Bx W w.heap.size [.int .i64 sk, .int .i64 nw, .slice (some ⟨g1, 0, none⟩) m k1, .int .i64 b, .int .i64 un, .slice (some ⟨g2, 0, none⟩) m k2]) (by kernel_rfl) (hX ▸ HY1.out.1.1) (fun hHeld => ?_)
      rw [← hX] at hHeld ⊢
      clear hX
      refine take_v (v := ?_) 0 ⟨some 112, Op.load 28 (Operand.tmp 2), _, _, _, none⟩ rfl (fun _ _ _ h => h) ?_ hHeld ?_
      rotate_left
      · (intro W hSW; (have s0 := hSW.cell 0 rfl; have s1 := hSW.cell 1 rfl; have s2 := hSW.cell 2 rfl; have s3 := hSW.cell 3 rfl; have s4 := hSW.cell 4 rfl; have s5 := hSW.cell 5 rfl; have sz := hSW.2); go_simp <;> (try with_reducible rfl))
      refine take_v (v := ?_) 1 ⟨some 113, Op.load 28 (Operand.tmp 2), _, _, _, none⟩ rfl (fun _ _ _ h => h) ?_ hHeld ?_
      rotate_left
      · (intro W hSW; (have s0 := hSW.cell 0 rfl; have s1 := hSW.cell 1 rfl; have s2 := hSW.cell 2 rfl; have s3 := hSW.cell 3 rfl; have s4 := hSW.cell 4 rfl; have s5 := hSW.cell 5 rfl; have sz := hSW.2); go_simp <;> (try with_reducible rfl))
      refine ready_call 2 ⟨some 114, Op.call { callee := Callee.value (Operand.func 27), args := #[Operand.tmp 113], argTypes := #[28] }, _, _, _, none⟩ (by kernel_rfl) rfl (by kernel_rfl) (fun KC hK => ?_)
      go_wp2_with fail
      refine (HZ.out ▸ specGoodLeases_n [.int .i64 sk, .int .i64 nw, .slice (some ⟨g1, 0, none⟩) m k1, .int .i64 b, .int .i64 un, .slice (some ⟨g2, 0, none⟩) m k2] sk nw cl b un kn _ HSZ.out (LeL.lies HY1.out.1.lel)).mono ?_
      rintro r X2 ⟨rfl, hb⟩
      have HY2 : Hid (LxS X2 lo w.heap.size sk nw g1 k1 cl b un g2 k2 kn m ∧ Bx X2 (w.heap.size + 1 + 1) [.int .i64 0, .int .i64 0, .slice none 0 0, .int .i64 0, .int .i64 0, .slice none 0 0] ∧ TurnS (fun k => k = g1 ∨ k = g2) w X2) := ⟨HY1.out.1.next hb, HY1.out.2.1.next hb, HY1.out.2.2.next hb⟩
      clear hb
      refine hK.out _ _ HY2.out.1.1 (fun hHeld => ?_)
      clear hK KC
      refine ready_call 3 ⟨none, Op.store 28 (Operand.tmp 4) (Operand.tmp 112), _, _, _, none⟩ (by kernel_rfl) rfl (by kernel_rfl) (fun KC hK => ?_)
      have u0 := HY2.out.2.1.cell 0 rfl
      have u1 := HY2.out.2.1.cell 1 rfl
      have u2 := HY2.out.2.1.cell 2 rfl
      have u3 := HY2.out.2.1.cell 3 rfl
      have u4 := HY2.out.2.1.cell 4 rfl
      have u5 := HY2.out.2.1.cell 5 rfl
      have uz := HY2.out.2.1.2
      have uf0 := HY2.out.2.1.frz 0 (by simp)
      have uf1 := HY2.out.2.1.frz 1 (by simp)
      have uf2 := HY2.out.2.1.frz 2 (by simp)
      have uf3 := HY2.out.2.1.frz 3 (by simp)
      have uf4 := HY2.out.2.1.frz 4 (by simp)
      have uf5 := HY2.out.2.1.frz 5 (by simp)
      go_wp2_with fail
      refine hK.out _ _ ((((((hHeld.other (by omega)).other (by omega)).other (by omega)).other (by omega)).other (by omega)).other (by omega)) (fun hHeld => ?_)
      clear hK KC
      refine take_v (v := ?_) 4 ⟨some 5, Op.assign (Operand.tmp 114), _, _, _, none⟩ rfl (fun _ _ _ h => h) ?_ hHeld ?_
      rotate_left
      · (intro W _; go_simp <;> (try with_reducible rfl))
      refine wpAnyH_done (by kernel_rfl) ?_ _
      refine NoPanic.normal ?_
      clear hHeld
      go_wp2_with fail
      exact bodyPost_ret (v := .tuple #[.agg #[.int .i64 sk, .int .i64 nw, .slice (some ⟨g1, 0, none⟩) m k1, .int .i64 b, .int .i64 un, .slice (some ⟨g2, 0, none⟩) m k2], .bool z]) (by simp [results, Try.results42, go_sem, *]) rfl (L1P.end' HY2.out.1 HY2.out.2.2 HO.out.1 HO.out.2 (set6 X2 (w.heap.size + 1 + 1) _ _ _ _ _ _) (by omega) n1 n2)
    · have c5' : un ≤ nw + n := by omega
      have HU : Hid (grU nw ho un b n = nw + n) := Hid.intro (by unfold grU; rw [if_pos c3]; omega)
      have HN : Hid (leGrant sk nw cl ho un kn b n = some (mkLe sk nw cl b (nw + n) kn)) := Hid.intro (by rw [HN0, HU.out])
      clear HN0 hbc
      subst c3
      have HO : Hid (true = (leGrant sk nw cl b un kn b n).isSome ∧ ∀ y : Sh.T shLeases, leGrant sk nw cl b un kn b n = some y → y = mkLe sk nw cl b (nw + n) kn) := Hid.intro (by rw [HN.out]; exact ⟨rfl, fun y q => (Option.some.inj q).symm⟩)
      have HGG : Hid (goodL sk nw cl b (nw + n) kn) := Hid.intro (by have h1 := HGB.out; rw [HU.out] at h1; exact h1)
      skip
      obtain ⟨z, hzE⟩ : ∃ z, z = true := ⟨_, rfl⟩
      have HZ : Hid (tf (goodL sk nw cl b (nw + n) kn) = z) := Hid.intro (by rw [hzE]; exact tf_yes HGG.out)
      rw [← hzE] at HO
      have HSZ : Hid (szD shLeases (sk, nw, cl, b, nw + n, kn, ()) ≤ 1073741824) := Hid.intro (by rw [sz_lea]; (try simp only [List.length_set]); have := HM.out; omega)
      have sf3 := HX.out.1.1.frz 3 (by simp)
      have sf4 := HX.out.1.1.frz 4 (by simp)
      clear hzE
      obtain ⟨w1, hw1⟩ : ∃ x, x = (w0.setCell ⟨w.heap.size, 3, none⟩ (.int .i64 b)).setCell ⟨w.heap.size, 4, none⟩ (.int .i64 (nw + n)) := ⟨_, rfl⟩
      have HY : Hid (LxS w1 lo w.heap.size sk nw g1 k1 cl b (nw + n) g2 k2 kn m ∧ Bx w1 (w.heap.size + 1 + 1) [.int .i64 0, .int .i64 0, .slice none 0 0, .int .i64 0, .int .i64 0, .slice none 0 0] ∧ TurnS (fun k => k = g1 ∨ k = g2) w w1) := Hid.intro (by
        rw [hw1]
        exact ⟨(HX.out.1.setH _).setU _, (HX.out.2.2.1.other (by omega)).other (by omega), ((TurnS.of_below HX.out.2.2.2).new (turn_set w0 ⟨w.heap.size, 3, none⟩ _) (Nat.le_refl _)).new (turn_set _ ⟨w.heap.size, 4, none⟩ _) (Nat.le_refl _)⟩)
      go_upto_region 26 with (first | (go_at_call 55; refine (HC.out ▸ l1In_any b 0 ((m : Int) - 1) _).mono ?_; rintro e w' ⟨rfl, hw'⟩; have hw' := hw'.symm; subst hw'; clear HC) | (go_at_call 55; refine (HC2.out ▸ l1In_any n 1 1000000 _).mono ?_; rintro e w' ⟨rfl, hw'⟩; have hw' := hw'.symm; subst hw'; clear HC2))
      rw [← hw1]
      clear hw1 s0 s1 s2 s3 s4 s5 sz u0 uf0 u1 uf1 u2 uf2 u3 uf3 u4 uf4 u5 uf5 uz t0 t1 t2 tz sf3 sf4
      obtain ⟨un', hun⟩ : ∃ y, y = nw + n := ⟨_, rfl⟩
      rw [← hun] at HY HZ HO HSZ ⊢
      clear hun
      go_upto_region 26 with fail
      have HY1 : Hid (LxS w1.drew lo w.heap.size sk nw g1 k1 cl b un' g2 k2 kn m ∧ Bx w1.drew (w.heap.size + 1 + 1) [.int .i64 0, .int .i64 0, .slice none 0 0, .int .i64 0, .int .i64 0, .slice none 0 0] ∧ TurnS (fun k => k = g1 ∨ k = g2) w w1.drew) := ⟨HY.out.1.next (below_drew _), HY.out.2.1.next (below_drew _), HY.out.2.2.next (below_drew _)⟩
      obtain ⟨X, hX⟩ : ∃ y, y = w1.drew := ⟨_, rfl⟩
      rw [← hX] at HY1
      refine wp_region_noPanic ?_
      refine wp_region_held_drew (S := fun W => Bx W w.heap.size [.int .i64 sk, .int .i64 nw, .slice (some ⟨g1, 0, none⟩) m k1, .int .i64 b, .int .i64 un', .slice (some ⟨g2, 0, none⟩) m k2]) (by kernel_rfl) (hX ▸ HY1.out.1.1) (fun hHeld => ?_)
      rw [← hX] at hHeld ⊢
      clear hX
      refine take_v (v := ?_) 0 ⟨some 112, Op.load 28 (Operand.tmp 2), _, _, _, none⟩ rfl (fun _ _ _ h => h) ?_ hHeld ?_
      rotate_left
      · (intro W hSW; (have s0 := hSW.cell 0 rfl; have s1 := hSW.cell 1 rfl; have s2 := hSW.cell 2 rfl; have s3 := hSW.cell 3 rfl; have s4 := hSW.cell 4 rfl; have s5 := hSW.cell 5 rfl; have sz := hSW.2); go_simp <;> (try with_reducible rfl))
      refine take_v (v := ?_) 1 ⟨some 113, Op.load 28 (Operand.tmp 2), _, _, _, none⟩ rfl (fun _ _ _ h => h) ?_ hHeld ?_
      rotate_left
      · (intro W hSW; (have s0 := hSW.cell 0 rfl; have s1 := hSW.cell 1 rfl; have s2 := hSW.cell 2 rfl; have s3 := hSW.cell 3 rfl; have s4 := hSW.cell 4 rfl; have s5 := hSW.cell 5 rfl; have sz := hSW.2); go_simp <;> (try with_reducible rfl))
      refine ready_call 2 ⟨some 114, Op.call { callee := Callee.value (Operand.func 27), args := #[Operand.tmp 113], argTypes := #[28] }, _, _, _, none⟩ (by kernel_rfl) rfl (by kernel_rfl) (fun KC hK => ?_)
      go_wp2_with fail
      refine (HZ.out ▸ specGoodLeases_n [.int .i64 sk, .int .i64 nw, .slice (some ⟨g1, 0, none⟩) m k1, .int .i64 b, .int .i64 un', .slice (some ⟨g2, 0, none⟩) m k2] sk nw cl b un' kn _ HSZ.out (LeL.lies HY1.out.1.lel)).mono ?_
      rintro r X2 ⟨rfl, hb⟩
      have HY2 : Hid (LxS X2 lo w.heap.size sk nw g1 k1 cl b un' g2 k2 kn m ∧ Bx X2 (w.heap.size + 1 + 1) [.int .i64 0, .int .i64 0, .slice none 0 0, .int .i64 0, .int .i64 0, .slice none 0 0] ∧ TurnS (fun k => k = g1 ∨ k = g2) w X2) := ⟨HY1.out.1.next hb, HY1.out.2.1.next hb, HY1.out.2.2.next hb⟩
      clear hb
      refine hK.out _ _ HY2.out.1.1 (fun hHeld => ?_)
      clear hK KC
      refine ready_call 3 ⟨none, Op.store 28 (Operand.tmp 4) (Operand.tmp 112), _, _, _, none⟩ (by kernel_rfl) rfl (by kernel_rfl) (fun KC hK => ?_)
      have u0 := HY2.out.2.1.cell 0 rfl
      have u1 := HY2.out.2.1.cell 1 rfl
      have u2 := HY2.out.2.1.cell 2 rfl
      have u3 := HY2.out.2.1.cell 3 rfl
      have u4 := HY2.out.2.1.cell 4 rfl
      have u5 := HY2.out.2.1.cell 5 rfl
      have uz := HY2.out.2.1.2
      have uf0 := HY2.out.2.1.frz 0 (by simp)
      have uf1 := HY2.out.2.1.frz 1 (by simp)
      have uf2 := HY2.out.2.1.frz 2 (by simp)
      have uf3 := HY2.out.2.1.frz 3 (by simp)
      have uf4 := HY2.out.2.1.frz 4 (by simp)
      have uf5 := HY2.out.2.1.frz 5 (by simp)
      go_wp2_with fail
      refine hK.out _ _ ((((((hHeld.other (by omega)).other (by omega)).other (by omega)).other (by omega)).other (by omega)).other (by omega)) (fun hHeld => ?_)
      clear hK KC
      refine take_v (v := ?_) 4 ⟨some 5, Op.assign (Operand.tmp 114), _, _, _, none⟩ rfl (fun _ _ _ h => h) ?_ hHeld ?_
      rotate_left
      · (intro W _; go_simp <;> (try with_reducible rfl))
      refine wpAnyH_done (by kernel_rfl) ?_ _
      refine NoPanic.normal ?_
      clear hHeld
      go_wp2_with fail
      exact bodyPost_ret (v := .tuple #[.agg #[.int .i64 sk, .int .i64 nw, .slice (some ⟨g1, 0, none⟩) m k1, .int .i64 b, .int .i64 un', .slice (some ⟨g2, 0, none⟩) m k2], .bool z]) (by simp [results, Try.results42, go_sem, *]) rfl (L1P.end' HY2.out.1 HY2.out.2.2 HO.out.1 HO.out.2 (set6 X2 (w.heap.size + 1 + 1) _ _ _ _ _ _) (by omega) n1 n2)
  have c3' : ¬ ho = b := fun e => c3 e.symm
  by_cases c4 : un ≤ nw
  · have HU : Hid (grU nw ho un b n = nw + n) := Hid.intro (by unfold grU; rw [if_neg c3])
    have HN : Hid (leGrant sk nw cl ho un kn b n = some (mkLe sk nw cl b (nw + n) kn)) := Hid.intro (by rw [leGrant_yes ⟨hbc, ⟨hn1, hn2⟩, Or.inr c4⟩, HU.out])
    have HGB := Hid.intro (good_grant (b := b) (n := n) HG.out ⟨hbc, ⟨hn1, hn2⟩, Or.inr c4⟩)
    have c4' : ¬ nw < un := by omega
    clear hbc
    have HO : Hid (true = (leGrant sk nw cl ho un kn b n).isSome ∧ ∀ y : Sh.T shLeases, leGrant sk nw cl ho un kn b n = some y → y = mkLe sk nw cl b (nw + n) kn) := Hid.intro (by rw [HN.out]; exact ⟨rfl, fun y q => (Option.some.inj q).symm⟩)
    have HGG : Hid (goodL sk nw cl b (nw + n) kn) := Hid.intro (by have h1 := HGB.out; rw [HU.out] at h1; exact h1)
    skip
    obtain ⟨z, hzE⟩ : ∃ z, z = true := ⟨_, rfl⟩
    have HZ : Hid (tf (goodL sk nw cl b (nw + n) kn) = z) := Hid.intro (by rw [hzE]; exact tf_yes HGG.out)
    rw [← hzE] at HO
    have HSZ : Hid (szD shLeases (sk, nw, cl, b, nw + n, kn, ()) ≤ 1073741824) := Hid.intro (by rw [sz_lea]; (try simp only [List.length_set]); have := HM.out; omega)
    have sf3 := HX.out.1.1.frz 3 (by simp)
    have sf4 := HX.out.1.1.frz 4 (by simp)
    clear hzE
    obtain ⟨w1, hw1⟩ : ∃ x, x = (w0.setCell ⟨w.heap.size, 3, none⟩ (.int .i64 b)).setCell ⟨w.heap.size, 4, none⟩ (.int .i64 (nw + n)) := ⟨_, rfl⟩
    have HY : Hid (LxS w1 lo w.heap.size sk nw g1 k1 cl b (nw + n) g2 k2 kn m ∧ Bx w1 (w.heap.size + 1 + 1) [.int .i64 0, .int .i64 0, .slice none 0 0, .int .i64 0, .int .i64 0, .slice none 0 0] ∧ TurnS (fun k => k = g1 ∨ k = g2) w w1) := Hid.intro (by
      rw [hw1]
      exact ⟨(HX.out.1.setH _).setU _, (HX.out.2.2.1.other (by omega)).other (by omega), ((TurnS.of_below HX.out.2.2.2).new (turn_set w0 ⟨w.heap.size, 3, none⟩ _) (Nat.le_refl _)).new (turn_set _ ⟨w.heap.size, 4, none⟩ _) (Nat.le_refl _)⟩)
    go_upto_region 26 with (first | (go_at_call 55; refine (HC.out ▸ l1In_any b 0 ((m : Int) - 1) _).mono ?_; rintro e w' ⟨rfl, hw'⟩; have hw' := hw'.symm; subst hw'; clear HC) | (go_at_call 55; refine (HC2.out ▸ l1In_any n 1 1000000 _).mono ?_; rintro e w' ⟨rfl, hw'⟩; have hw' := hw'.symm; subst hw'; clear HC2))
    rw [← hw1]
    clear hw1 s0 s1 s2 s3 s4 s5 sz u0 uf0 u1 uf1 u2 uf2 u3 uf3 u4 uf4 u5 uf5 uz t0 t1 t2 tz sf3 sf4
    obtain ⟨un', hun⟩ : ∃ y, y = nw + n := ⟨_, rfl⟩
    rw [← hun] at HY HZ HO HSZ ⊢
    clear hun
    go_upto_region 26 with fail
    have HY1 : Hid (LxS w1.drew lo w.heap.size sk nw g1 k1 cl b un' g2 k2 kn m ∧ Bx w1.drew (w.heap.size + 1 + 1) [.int .i64 0, .int .i64 0, .slice none 0 0, .int .i64 0, .int .i64 0, .slice none 0 0] ∧ TurnS (fun k => k = g1 ∨ k = g2) w w1.drew) := ⟨HY.out.1.next (below_drew _), HY.out.2.1.next (below_drew _), HY.out.2.2.next (below_drew _)⟩
    obtain ⟨X, hX⟩ : ∃ y, y = w1.drew := ⟨_, rfl⟩
    rw [← hX] at HY1
    refine wp_region_noPanic ?_
    refine wp_region_held_drew (S := fun W => Bx W w.heap.size [.int .i64 sk, .int .i64 nw, .slice (some ⟨g1, 0, none⟩) m k1, .int .i64 b, .int .i64 un', .slice (some ⟨g2, 0, none⟩) m k2]) (by kernel_rfl) (hX ▸ HY1.out.1.1) (fun hHeld => ?_)
    rw [← hX] at hHeld ⊢
    clear hX
    refine take_v (v := ?_) 0 ⟨some 112, Op.load 28 (Operand.tmp 2), _, _, _, none⟩ rfl (fun _ _ _ h => h) ?_ hHeld ?_
    rotate_left
    · (intro W hSW; (have s0 := hSW.cell 0 rfl; have s1 := hSW.cell 1 rfl; have s2 := hSW.cell 2 rfl; have s3 := hSW.cell 3 rfl; have s4 := hSW.cell 4 rfl; have s5 := hSW.cell 5 rfl; have sz := hSW.2); go_simp <;> (try with_reducible rfl))
    refine take_v (v := ?_) 1 ⟨some 113, Op.load 28 (Operand.tmp 2), _, _, _, none⟩ rfl (fun _ _ _ h => h) ?_ hHeld ?_
    rotate_left
    · (intro W hSW; (have s0 := hSW.cell 0 rfl; have s1 := hSW.cell 1 rfl; have s2 := hSW.cell 2 rfl; have s3 := hSW.cell 3 rfl; have s4 := hSW.cell 4 rfl; have s5 := hSW.cell 5 rfl; have sz := hSW.2); go_simp <;> (try with_reducible rfl))
    refine ready_call 2 ⟨some 114, Op.call { callee := Callee.value (Operand.func 27), args := #[Operand.tmp 113], argTypes := #[28] }, _, _, _, none⟩ (by kernel_rfl) rfl (by kernel_rfl) (fun KC hK => ?_)
    go_wp2_with fail
    refine (HZ.out ▸ specGoodLeases_n [.int .i64 sk, .int .i64 nw, .slice (some ⟨g1, 0, none⟩) m k1, .int .i64 b, .int .i64 un', .slice (some ⟨g2, 0, none⟩) m k2] sk nw cl b un' kn _ HSZ.out (LeL.lies HY1.out.1.lel)).mono ?_
    rintro r X2 ⟨rfl, hb⟩
    have HY2 : Hid (LxS X2 lo w.heap.size sk nw g1 k1 cl b un' g2 k2 kn m ∧ Bx X2 (w.heap.size + 1 + 1) [.int .i64 0, .int .i64 0, .slice none 0 0, .int .i64 0, .int .i64 0, .slice none 0 0] ∧ TurnS (fun k => k = g1 ∨ k = g2) w X2) := ⟨HY1.out.1.next hb, HY1.out.2.1.next hb, HY1.out.2.2.next hb⟩
    clear hb
    refine hK.out _ _ HY2.out.1.1 (fun hHeld => ?_)
    clear hK KC
    refine ready_call 3 ⟨none, Op.store 28 (Operand.tmp 4) (Operand.tmp 112), _, _, _, none⟩ (by kernel_rfl) rfl (by kernel_rfl) (fun KC hK => ?_)
    have u0 := HY2.out.2.1.cell 0 rfl
    have u1 := HY2.out.2.1.cell 1 rfl
    have u2 := HY2.out.2.1.cell 2 rfl
    have u3 := HY2.out.2.1.cell 3 rfl
    have u4 := HY2.out.2.1.cell 4 rfl
    have u5 := HY2.out.2.1.cell 5 rfl
    have uz := HY2.out.2.1.2
    have uf0 := HY2.out.2.1.frz 0 (by simp)
    have uf1 := HY2.out.2.1.frz 1 (by simp)
    have uf2 := HY2.out.2.1.frz 2 (by simp)
    have uf3 := HY2.out.2.1.frz 3 (by simp)
    have uf4 := HY2.out.2.1.frz 4 (by simp)
    have uf5 := HY2.out.2.1.frz 5 (by simp)
    go_wp2_with fail
    refine hK.out _ _ ((((((hHeld.other (by omega)).other (by omega)).other (by omega)).other (by omega)).other (by omega)).other (by omega)) (fun hHeld => ?_)
    clear hK KC
    refine take_v (v := ?_) 4 ⟨some 5, Op.assign (Operand.tmp 114), _, _, _, none⟩ rfl (fun _ _ _ h => h) ?_ hHeld ?_
    rotate_left
    · (intro W _; go_simp <;> (try with_reducible rfl))
    refine wpAnyH_done (by kernel_rfl) ?_ _
    refine NoPanic.normal ?_
    clear hHeld
    go_wp2_with fail
    exact bodyPost_ret (v := .tuple #[.agg #[.int .i64 sk, .int .i64 nw, .slice (some ⟨g1, 0, none⟩) m k1, .int .i64 b, .int .i64 un', .slice (some ⟨g2, 0, none⟩) m k2], .bool z]) (by simp [results, Try.results42, go_sem, *]) rfl (L1P.end' HY2.out.1 HY2.out.2.2 HO.out.1 HO.out.2 (set6 X2 (w.heap.size + 1 + 1) _ _ _ _ _ _) (by omega) n1 n2)
  · have HN : Hid (leGrant sk nw cl ho un kn b n = none) := Hid.intro (leGrant_no (fun q => q.2.2.elim c3 c4))
    have c4' : nw < un := by omega
    clear hbc
    go_wp2_with (first | (go_at_call 55; refine (HC.out ▸ l1In_any b 0 ((m : Int) - 1) _).mono ?_; rintro e w' ⟨rfl, hw'⟩; have hw' := hw'.symm; subst hw'; clear HC) | (go_at_call 55; refine (HC2.out ▸ l1In_any n 1 1000000 _).mono ?_; rintro e w' ⟨rfl, hw'⟩; have hw' := hw'.symm; subst hw'; clear HC2))
    exact bodyPost_ret (v := .tuple #[.agg #[.int .i64 sk, .int .i64 nw, .slice (some ⟨g1, 0, none⟩) m k1, .int .i64 ho, .int .i64 un, .slice (some ⟨g2, 0, none⟩) m k2], .bool false]) (by simp [results, Try.results42, go_sem, *]) rfl (L1P.end' HX.out.1 (TurnS.of_below HX.out.2.2.2) (by rw [HN.out]; rfl) (fun y q => by rw [HN.out] at q; cases q) (set6 w0 (w.heap.size + 1 + 1) _ _ _ _ _ _) (by omega) n1 n2)


set_option maxRecDepth 100000 in
set_option maxHeartbeats 4000000 in
theorem l11Step2_n (lo : Nat) (sk nw : Int) (g1 k1 : Nat) (cl : List (Sh.T .int)) (ho un : Int) (g2 k2 : Nat) (kn : List (Sh.T .int)) (m : Nat) (b n : Int) (w : World)  (hg : goodL sk nw cl ho un kn) (r1 : Rw 3 w lo g1 k1 cl m) (r2 : Rw 3 w lo g2 k2 kn m) (hne : g1 ≠ g2) :
    Calls Try.prog 42 #[.agg #[.int .i64 sk, .int .i64 nw, .slice (some ⟨g1, 0, none⟩) m k1, .int .i64 ho, .int .i64 un, .slice (some ⟨g2, 0, none⟩) m k2], .agg #[.int .i64 2, .int .i64 b, .int .i64 n]] w (L1P (leTell sk nw cl ho un kn b) w lo g1 k1 g2 k2 m) := by
  have HG := Hid.intro hg
  have HM : Hid (cl.length = m ∧ kn.length = m) := ⟨r1.2, r2.2⟩
  have hm12 : m ≤ 12 := by have h1 := hg.2.2.2.1; rw [r1.2] at h1; omega
  have hm30 : m ≤ 1073741824 := by omega
  have hnw1 := hg.2.1.1
  have hnw2 := hg.2.1.2
  have hun1 := hg.2.2.1.1
  have hun2 := hg.2.2.1.2
  obtain ⟨w0, hw0⟩ : ∃ x, x = ((w.alloc (.cells #[.int .i64 sk, .int .i64 nw, .slice (some ⟨g1, 0, none⟩) m k1, .int .i64 ho, .int .i64 un, .slice (some ⟨g2, 0, none⟩) m k2] 28)).alloc (.cells #[.int .i64 2, .int .i64 b, .int .i64 n] 34)).alloc (.cells #[.int .i64 0, .int .i64 0, .slice none 0 0, .int .i64 0, .int .i64 0, .slice none 0 0] 28) := ⟨_, rfl⟩
  have hb0 : Below w.heap.size w w0 := hw0 ▸ (((Below.refl _ _).alloc (Nat.le_refl _) _).alloc (by simp) _).alloc (by simp; omega) _
  have HX : Hid (LxS w0 lo w.heap.size sk nw g1 k1 cl ho un g2 k2 kn m ∧ Bx w0 (w.heap.size + 1) [.int .i64 2, .int .i64 b, .int .i64 n] ∧ Bx w0 (w.heap.size + 1 + 1) [.int .i64 0, .int .i64 0, .slice none 0 0, .int .i64 0, .int .i64 0, .slice none 0 0] ∧ Below w.heap.size w w0) :=
    ⟨⟨hw0 ▸ ((Bx.new w [_, _, _, _, _, _] _).alloc _).alloc _, r1.next hb0, r2.next hb0, hne, Nat.ne_of_gt r1.lt.1, Nat.ne_of_gt r2.lt.1⟩, hw0 ▸ (Bx.newAt (by simp)).alloc _, hw0 ▸ Bx.newAt (by simp), hb0⟩
  have hl1 : g1 < w.heap.size := r1.lt.1
  have hl2 : g2 < w.heap.size := r2.lt.1
  have n1 : g1 ≠ w.heap.size + 1 + 1 := by omega
  have n2 : g2 ≠ w.heap.size + 1 + 1 := by omega
  have n3 : g1 ≠ w.heap.size := by omega
  have n4 : g2 ≠ w.heap.size := by omega
  have n5 : w.heap.size ≠ g1 := by omega
  have n6 : w.heap.size ≠ g2 := by omega
  have n7 : g1 ≠ w.heap.size + 1 := by omega
  have n8 : g2 ≠ w.heap.size + 1 := by omega
  have hw0z : Hid (w0.heap.size = w.heap.size + 3) := Hid.intro (by rw [hw0]; simp)
  have s0 := HX.out.1.1.cell 0 rfl
  have s1 := HX.out.1.1.cell 1 rfl
  have s2 := HX.out.1.1.cell 2 rfl
  have s3 := HX.out.1.1.cell 3 rfl
  have s4 := HX.out.1.1.cell 4 rfl
  have s5 := HX.out.1.1.cell 5 rfl
  have sz := HX.out.1.1.2
  have t0 := HX.out.2.1.cell 0 rfl
  have t1 := HX.out.2.1.cell 1 rfl
  have t2 := HX.out.2.1.cell 2 rfl
  have tz := HX.out.2.1.2
  have u0 := HX.out.2.2.1.cell 0 rfl
  have u1 := HX.out.2.2.1.cell 1 rfl
  have u2 := HX.out.2.2.1.cell 2 rfl
  have u3 := HX.out.2.2.1.cell 3 rfl
  have u4 := HX.out.2.2.1.cell 4 rfl
  have u5 := HX.out.2.2.1.cell 5 rfl
  have uz := HX.out.2.2.1.2
  have uf0 := HX.out.2.2.1.frz 0 (by simp)
  have uf1 := HX.out.2.2.1.frz 1 (by simp)
  have uf2 := HX.out.2.2.1.frz 2 (by simp)
  have uf3 := HX.out.2.2.1.frz 3 (by simp)
  have uf4 := HX.out.2.2.1.frz 4 (by simp)
  have uf5 := HX.out.2.2.1.frz 5 (by simp)
  have hpq : Hid (goodL sk nw cl ho un kn) := hg
  clear r1 r2 hne hg hb0
  go_enter Try.func42, Try.ntmps42
  go_upto_region 1 with fail
  rw [← hw0]
  clear hw0
  cases c1 : inR b 0 ((m : Int) - 1)
  · have HN : Hid (leTell sk nw cl ho un kn b = none) := Hid.intro (leTell_no (fun q => by have h1 := q.1; rw [HM.out.1] at h1; rw [inR_iff.2 h1] at c1; cases c1))
    have HC : Hid (inR b 0 ((m : Int) - 1) = false) := c1
    clear c1
    go_wp2_with (go_at_call 55; refine (HC.out ▸ l1In_any b 0 ((m : Int) - 1) _).mono ?_; rintro e w' ⟨rfl, hw'⟩; have hw' := hw'.symm; subst hw'; clear HC)
    exact bodyPost_ret (v := .tuple #[.agg #[.int .i64 sk, .int .i64 nw, .slice (some ⟨g1, 0, none⟩) m k1, .int .i64 ho, .int .i64 un, .slice (some ⟨g2, 0, none⟩) m k2], .bool false]) (by simp [results, Try.results42, go_sem, *]) rfl (L1P.end' HX.out.1 (TurnS.of_below HX.out.2.2.2) (by rw [HN.out]; rfl) (fun y q => by rw [HN.out] at q; cases q) (set6 w0 (w.heap.size + 1 + 1) _ _ _ _ _ _) (by omega) n1 n2)
  have HC : Hid (inR b 0 ((m : Int) - 1) = true) := c1
  have hb12 := inR_iff.1 c1
  clear c1
  by_cases c3 : b = ho
  case neg =>
    have HN : Hid (leTell sk nw cl ho un kn b = none) := Hid.intro (leTell_no (fun q => c3 q.2))
    have c3' : ¬ ho = b := fun e => c3 e.symm
    go_wp2_with (go_at_call 55; refine (HC.out ▸ l1In_any b 0 ((m : Int) - 1) _).mono ?_; rintro e w' ⟨rfl, hw'⟩; have hw' := hw'.symm; subst hw'; clear HC)
    exact bodyPost_ret (v := .tuple #[.agg #[.int .i64 sk, .int .i64 nw, .slice (some ⟨g1, 0, none⟩) m k1, .int .i64 ho, .int .i64 un, .slice (some ⟨g2, 0, none⟩) m k2], .bool false]) (by simp [results, Try.results42, go_sem, *]) rfl (L1P.end' HX.out.1 (TurnS.of_below HX.out.2.2.2) (by rw [HN.out]; rfl) (fun y q => by rw [HN.out] at q; cases q) (set6 w0 (w.heap.size + 1 + 1) _ _ _ _ _ _) (by omega) n1 n2)
  have hbc : 0 ≤ b ∧ b ≤ (cl.length : Int) - 1 := by rw [HM.out.1]; exact hb12
  obtain ⟨k, hkE⟩ : ∃ k : Nat, b = (k : Int) := ⟨b.toNat, by omega⟩
  have hkm : k < m := by omega
  have hkm' : (k : Int) < (m : Int) := by omega
  have hkt : b.toNat = k := by omega
  have HN : Hid (leTell sk nw cl ho un kn b = some (mkLe sk nw cl ho un (kn.set k un))) := Hid.intro (by rw [leTell_yes ⟨hbc, c3⟩, hkt])
  have HGG : Hid (goodL sk nw cl ho un (kn.set k un)) := Hid.intro (by have h1 := good_tell HG.out ⟨hbc, c3⟩; rw [hkt] at h1; exact h1)
  have HO : Hid (true = (leTell sk nw cl ho un kn b).isSome ∧ ∀ y : Sh.T shLeases, leTell sk nw cl ho un kn b = some y → y = mkLe sk nw cl ho un (kn.set k un)) := Hid.intro (by rw [HN.out]; exact ⟨rfl, fun y q => (Option.some.inj q).symm⟩)
  have HSZ : Hid (szD shLeases (sk, nw, cl, ho, un, (kn.set k un), ()) ≤ 1073741824) := Hid.intro (by rw [sz_lea]; (try simp only [List.length_set]); have := HM.out; omega)
  clear hkt hbc hb12
  subst c3
  subst hkE
  obtain ⟨z, hzE⟩ : ∃ z, z = true := ⟨_, rfl⟩
  have HZ : Hid (tf (goodL sk nw cl (k : Int) un (kn.set k un)) = z) := Hid.intro (by rw [hzE]; exact tf_yes HGG.out)
  rw [← hzE] at HO
  clear hzE
  obtain ⟨q1, q2, q3⟩ := HX.out.1.2.2.1.at hkm
  obtain ⟨w1, hw1⟩ : ∃ x, x = w0.setCell ⟨g2, k, none⟩ (.int .i64 un) := ⟨_, rfl⟩
  have HY : Hid (LxS w1 lo w.heap.size sk nw g1 k1 cl (k : Int) un g2 k2 (kn.set k un) m ∧ Bx w1 (w.heap.size + 1 + 1) [.int .i64 0, .int .i64 0, .slice none 0 0, .int .i64 0, .int .i64 0, .slice none 0 0] ∧ TurnS (fun k => k = g1 ∨ k = g2) w w1) := Hid.intro (by
    rw [hw1]
    exact ⟨HX.out.1.setK hkm _, HX.out.2.2.1.other (by omega), (TurnS.of_below HX.out.2.2.2).set (S := fun k => k = g1 ∨ k = g2) (p := ⟨g2, k, none⟩) (Or.inr rfl) _⟩)
  go_upto_region 26 with (go_at_call 55; refine (HC.out ▸ l1In_any (k : Int) 0 ((m : Int) - 1) _).mono ?_; rintro e w' ⟨rfl, hw'⟩; have hw' := hw'.symm; subst hw'; clear HC)
  rw [← hw1]
  clear hw1 s0 s1 s2 s3 s4 s5 sz u0 uf0 u1 uf1 u2 uf2 u3 uf3 u4 uf4 u5 uf5 uz t0 t1 t2 tz q1 q2 q3
  obtain ⟨K, hK⟩ : ∃ y, y = kn.set k un := ⟨_, rfl⟩
  rw [← hK] at HY HZ HO HSZ
  clear hK
  go_upto_region 26 with fail
  have HY1 : Hid (LxS w1.drew lo w.heap.size sk nw g1 k1 cl (k : Int) un g2 k2 K m ∧ Bx w1.drew (w.heap.size + 1 + 1) [.int .i64 0, .int .i64 0, .slice none 0 0, .int .i64 0, .int .i64 0, .slice none 0 0] ∧ TurnS (fun k => k = g1 ∨ k = g2) w w1.drew) := ⟨HY.out.1.next (below_drew _), HY.out.2.1.next (below_drew _), HY.out.2.2.next (below_drew _)⟩
  obtain ⟨X, hX⟩ : ∃ y, y = w1.drew := ⟨_, rfl⟩
  rw [← hX] at HY1
  refine wp_region_noPanic ?_
  refine wp_region_held_drew (S := fun W => Bx W w.heap.size [.int .i64 sk, .int .i64 nw, .slice (some ⟨g1, 0, none⟩) m k1, .int .i64 (k : Int), .int .i64 un, .slice (some ⟨g2, 0, none⟩) m k2]) (by kernel_rfl) (hX ▸ HY1.out.1.1) (fun hHeld => ?_)
  rw [← hX] at hHeld ⊢
  clear hX
  refine take_v (v := ?_) 0 ⟨some 112, Op.load 28 (Operand.tmp 2), _, _, _, none⟩ rfl (fun _ _ _ h => h) ?_ hHeld ?_
  rotate_left
  · (intro W hSW; (have s0 := hSW.cell 0 rfl; have s1 := hSW.cell 1 rfl; have s2 := hSW.cell 2 rfl; have s3 := hSW.cell 3 rfl; have s4 := hSW.cell 4 rfl; have s5 := hSW.cell 5 rfl; have sz := hSW.2); go_simp <;> (try with_reducible rfl))
  refine take_v (v := ?_) 1 ⟨some 113, Op.load 28 (Operand.tmp 2), _, _, _, none⟩ rfl (fun _ _ _ h => h) ?_ hHeld ?_
  rotate_left
  · (intro W hSW; (have s0 := hSW.cell 0 rfl; have s1 := hSW.cell 1 rfl; have s2 := hSW.cell 2 rfl; have s3 := hSW.cell 3 rfl; have s4 := hSW.cell 4 rfl; have s5 := hSW.cell 5 rfl; have sz := hSW.2); go_simp <;> (try with_reducible rfl))
  refine ready_call 2 ⟨some 114, Op.call { callee := Callee.value (Operand.func 27), args := #[Operand.tmp 113], argTypes := #[28] }, _, _, _, none⟩ (by kernel_rfl) rfl (by kernel_rfl) (fun KC hK => ?_)
  go_wp2_with fail
  refine (HZ.out ▸ specGoodLeases_n [.int .i64 sk, .int .i64 nw, .slice (some ⟨g1, 0, none⟩) m k1, .int .i64 (k : Int), .int .i64 un, .slice (some ⟨g2, 0, none⟩) m k2] sk nw cl (k : Int) un K _ HSZ.out (LeL.lies HY1.out.1.lel)).mono ?_
  rintro r X2 ⟨rfl, hb⟩
  have HY2 : Hid (LxS X2 lo w.heap.size sk nw g1 k1 cl (k : Int) un g2 k2 K m ∧ Bx X2 (w.heap.size + 1 + 1) [.int .i64 0, .int .i64 0, .slice none 0 0, .int .i64 0, .int .i64 0, .slice none 0 0] ∧ TurnS (fun k => k = g1 ∨ k = g2) w X2) := ⟨HY1.out.1.next hb, HY1.out.2.1.next hb, HY1.out.2.2.next hb⟩
  clear hb
  refine hK.out _ _ HY2.out.1.1 (fun hHeld => ?_)
  clear hK KC
  refine ready_call 3 ⟨none, Op.store 28 (Operand.tmp 4) (Operand.tmp 112), _, _, _, none⟩ (by kernel_rfl) rfl (by kernel_rfl) (fun KC hK => ?_)
  have u0 := HY2.out.2.1.cell 0 rfl
  have u1 := HY2.out.2.1.cell 1 rfl
  have u2 := HY2.out.2.1.cell 2 rfl
  have u3 := HY2.out.2.1.cell 3 rfl
  have u4 := HY2.out.2.1.cell 4 rfl
  have u5 := HY2.out.2.1.cell 5 rfl
  have uz := HY2.out.2.1.2
  have uf0 := HY2.out.2.1.frz 0 (by simp)
  have uf1 := HY2.out.2.1.frz 1 (by simp)
  have uf2 := HY2.out.2.1.frz 2 (by simp)
  have uf3 := HY2.out.2.1.frz 3 (by simp)
  have uf4 := HY2.out.2.1.frz 4 (by simp)
  have uf5 := HY2.out.2.1.frz 5 (by simp)
  go_wp2_with fail
  refine hK.out _ _ ((((((hHeld.other (by omega)).other (by omega)).other (by omega)).other (by omega)).other (by omega)).other (by omega)) (fun hHeld => ?_)
  clear hK KC
  refine take_v (v := ?_) 4 ⟨some 5, Op.assign (Operand.tmp 114), _, _, _, none⟩ rfl (fun _ _ _ h => h) ?_ hHeld ?_
  rotate_left
  · (intro W _; go_simp <;> (try with_reducible rfl))
  refine wpAnyH_done (by kernel_rfl) ?_ _
  refine NoPanic.normal ?_
  clear hHeld
  go_wp2_with fail
  exact bodyPost_ret (v := .tuple #[.agg #[.int .i64 sk, .int .i64 nw, .slice (some ⟨g1, 0, none⟩) m k1, .int .i64 (k : Int), .int .i64 un, .slice (some ⟨g2, 0, none⟩) m k2], .bool z]) (by simp [results, Try.results42, go_sem, *]) rfl (L1P.end' HY2.out.1 HY2.out.2.2 HO.out.1 HO.out.2 (set6 X2 (w.heap.size + 1 + 1) _ _ _ _ _ _) (by omega) n1 n2)


set_option maxRecDepth 100000 in
set_option maxHeartbeats 4000000 in
theorem l11Step4_n (lo : Nat) (sk nw : Int) (g1 k1 : Nat) (cl : List (Sh.T .int)) (ho un : Int) (g2 k2 : Nat) (kn : List (Sh.T .int)) (m : Nat) (b n : Int) (w : World)  (hg : goodL sk nw cl ho un kn) (r1 : Rw 3 w lo g1 k1 cl m) (r2 : Rw 3 w lo g2 k2 kn m) (hne : g1 ≠ g2) :
    Calls Try.prog 42 #[.agg #[.int .i64 sk, .int .i64 nw, .slice (some ⟨g1, 0, none⟩) m k1, .int .i64 ho, .int .i64 un, .slice (some ⟨g2, 0, none⟩) m k2], .agg #[.int .i64 4, .int .i64 b, .int .i64 n]] w (L1P (leTick sk nw cl ho un kn b n) w lo g1 k1 g2 k2 m) := by
  have HG := Hid.intro hg
  have HM : Hid (cl.length = m ∧ kn.length = m) := ⟨r1.2, r2.2⟩
  have hm12 : m ≤ 12 := by have h1 := hg.2.2.2.1; rw [r1.2] at h1; omega
  have hm30 : m ≤ 1073741824 := by omega
  have hnw1 := hg.2.1.1
  have hnw2 := hg.2.1.2
  have hun1 := hg.2.2.1.1
  have hun2 := hg.2.2.1.2
  obtain ⟨w0, hw0⟩ : ∃ x, x = ((w.alloc (.cells #[.int .i64 sk, .int .i64 nw, .slice (some ⟨g1, 0, none⟩) m k1, .int .i64 ho, .int .i64 un, .slice (some ⟨g2, 0, none⟩) m k2] 28)).alloc (.cells #[.int .i64 4, .int .i64 b, .int .i64 n] 34)).alloc (.cells #[.int .i64 0, .int .i64 0, .slice none 0 0, .int .i64 0, .int .i64 0, .slice none 0 0] 28) := ⟨_, rfl⟩
  have hb0 : Below w.heap.size w w0 := hw0 ▸ (((Below.refl _ _).alloc (Nat.le_refl _) _).alloc (by simp) _).alloc (by simp; omega) _
  have HX : Hid (LxS w0 lo w.heap.size sk nw g1 k1 cl ho un g2 k2 kn m ∧ Bx w0 (w.heap.size + 1) [.int .i64 4, .int .i64 b, .int .i64 n] ∧ Bx w0 (w.heap.size + 1 + 1) [.int .i64 0, .int .i64 0, .slice none 0 0, .int .i64 0, .int .i64 0, .slice none 0 0] ∧ Below w.heap.size w w0) :=
    ⟨⟨hw0 ▸ ((Bx.new w [_, _, _, _, _, _] _).alloc _).alloc _, r1.next hb0, r2.next hb0, hne, Nat.ne_of_gt r1.lt.1, Nat.ne_of_gt r2.lt.1⟩, hw0 ▸ (Bx.newAt (by simp)).alloc _, hw0 ▸ Bx.newAt (by simp), hb0⟩
  have hl1 : g1 < w.heap.size := r1.lt.1
  have hl2 : g2 < w.heap.size := r2.lt.1
  have n1 : g1 ≠ w.heap.size + 1 + 1 := by omega
  have n2 : g2 ≠ w.heap.size + 1 + 1 := by omega
  have n3 : g1 ≠ w.heap.size := by omega
  have n4 : g2 ≠ w.heap.size := by omega
  have n5 : w.heap.size ≠ g1 := by omega
  have n6 : w.heap.size ≠ g2 := by omega
  have n7 : g1 ≠ w.heap.size + 1 := by omega
  have n8 : g2 ≠ w.heap.size + 1 := by omega
  have hw0z : Hid (w0.heap.size = w.heap.size + 3) := Hid.intro (by rw [hw0]; simp)
  have s0 := HX.out.1.1.cell 0 rfl
  have s1 := HX.out.1.1.cell 1 rfl
  have s2 := HX.out.1.1.cell 2 rfl
  have s3 := HX.out.1.1.cell 3 rfl
  have s4 := HX.out.1.1.cell 4 rfl
  have s5 := HX.out.1.1.cell 5 rfl
  have sz := HX.out.1.1.2
  have t0 := HX.out.2.1.cell 0 rfl
  have t1 := HX.out.2.1.cell 1 rfl
  have t2 := HX.out.2.1.cell 2 rfl
  have tz := HX.out.2.1.2
  have u0 := HX.out.2.2.1.cell 0 rfl
  have u1 := HX.out.2.2.1.cell 1 rfl
  have u2 := HX.out.2.2.1.cell 2 rfl
  have u3 := HX.out.2.2.1.cell 3 rfl
  have u4 := HX.out.2.2.1.cell 4 rfl
  have u5 := HX.out.2.2.1.cell 5 rfl
  have uz := HX.out.2.2.1.2
  have uf0 := HX.out.2.2.1.frz 0 (by simp)
  have uf1 := HX.out.2.2.1.frz 1 (by simp)
  have uf2 := HX.out.2.2.1.frz 2 (by simp)
  have uf3 := HX.out.2.2.1.frz 3 (by simp)
  have uf4 := HX.out.2.2.1.frz 4 (by simp)
  have uf5 := HX.out.2.2.1.frz 5 (by simp)
  have hpq : Hid (goodL sk nw cl ho un kn) := hg
  clear r1 r2 hne hg hb0
  go_enter Try.func42, Try.ntmps42
  go_upto_region 1 with fail
  rw [← hw0]
  clear hw0
  cases c1 : inR b 0 ((m : Int) - 1)
  · have HN : Hid (leTick sk nw cl ho un kn b n = none) := Hid.intro (leTick_no (fun q => by have h1 := q.1; rw [HM.out.1] at h1; rw [inR_iff.2 h1] at c1; cases c1))
    have HC : Hid (inR b 0 ((m : Int) - 1) = false) := c1
    clear c1
    go_wp2_with (go_at_call 55; refine (HC.out ▸ l1In_any b 0 ((m : Int) - 1) _).mono ?_; rintro e w' ⟨rfl, hw'⟩; have hw' := hw'.symm; subst hw'; clear HC)
    exact bodyPost_ret (v := .tuple #[.agg #[.int .i64 sk, .int .i64 nw, .slice (some ⟨g1, 0, none⟩) m k1, .int .i64 ho, .int .i64 un, .slice (some ⟨g2, 0, none⟩) m k2], .bool false]) (by simp [results, Try.results42, go_sem, *]) rfl (L1P.end' HX.out.1 (TurnS.of_below HX.out.2.2.2) (by rw [HN.out]; rfl) (fun y q => by rw [HN.out] at q; cases q) (set6 w0 (w.heap.size + 1 + 1) _ _ _ _ _ _) (by omega) n1 n2)
  have HC : Hid (inR b 0 ((m : Int) - 1) = true) := c1
  have hb12 := inR_iff.1 c1
  clear c1
  cases c2 : inR n (-1000) 1000000
  · have HN : Hid (leTick sk nw cl ho un kn b n = none) := Hid.intro (leTick_no (fun q => by rw [inR_iff.2 q.2.1] at c2; cases c2))
    have HC2 : Hid (inR n (-1000) 1000000 = false) := c2
    clear c2
    go_wp2_with (first | (go_at_call 55; refine (HC.out ▸ l1In_any b 0 ((m : Int) - 1) _).mono ?_; rintro e w' ⟨rfl, hw'⟩; have hw' := hw'.symm; subst hw'; clear HC) | (go_at_call 55; refine (HC2.out ▸ l1In_any n (-1000) 1000000 _).mono ?_; rintro e w' ⟨rfl, hw'⟩; have hw' := hw'.symm; subst hw'; clear HC2))
    exact bodyPost_ret (v := .tuple #[.agg #[.int .i64 sk, .int .i64 nw, .slice (some ⟨g1, 0, none⟩) m k1, .int .i64 ho, .int .i64 un, .slice (some ⟨g2, 0, none⟩) m k2], .bool false]) (by simp [results, Try.results42, go_sem, *]) rfl (L1P.end' HX.out.1 (TurnS.of_below HX.out.2.2.2) (by rw [HN.out]; rfl) (fun y q => by rw [HN.out] at q; cases q) (set6 w0 (w.heap.size + 1 + 1) _ _ _ _ _ _) (by omega) n1 n2)
  have HC2 : Hid (inR n (-1000) 1000000 = true) := c2
  have hn12 := inR_iff.1 c2
  obtain ⟨k, hkE⟩ : ∃ k : Nat, b = (k : Int) := ⟨b.toNat, by omega⟩
  have hkm : k < m := by omega
  have hkm' : (k : Int) < (m : Int) := by omega
  have hkc : k < cl.length := by have := HM.out.1; omega
  subst hkE
  have HBD := Hid.intro (node_bd HG.out hkc)
  have HTO := Hid.intro (tick_out HG.out hn12 hkc)
  obtain ⟨q1, q2, q3⟩ := HX.out.1.2.1.at hkm
  obtain ⟨c, hcE⟩ : ∃ y, y = atI cl k := ⟨_, rfl⟩
  have hc1 : 0 ≤ c := by have := HBD.out.1; omega
  have hc2 : c ≤ 2000000 := by have := HBD.out.1; omega
  rw [← hcE] at HTO q1
  obtain ⟨hn1, hn2⟩ := hn12
  obtain ⟨z, hzE⟩ : ∃ z, tf (goodL sk nw (cl.set k (c + n)) ho un kn) = z := ⟨_, rfl⟩
  have HZ := Hid.intro hzE
  have HO : Hid (z = (leTick sk nw cl ho un kn (k : Int) n).isSome ∧ ∀ y : Sh.T shLeases, leTick sk nw cl ho un kn (k : Int) n = some y → y = mkLe sk nw (cl.set k (c + n)) ho un kn) := Hid.intro (hzE ▸ HTO.out)
  have HSZ : Hid (szD shLeases (sk, nw, (cl.set k (c + n)), ho, un, kn, ()) ≤ 1073741824) := Hid.intro (by rw [sz_lea]; (try simp only [List.length_set]); have := HM.out; omega)
  have HCE : Hid (atI cl k = c) := Hid.intro hcE.symm
  clear c2 hb12 hzE hkc HBD HTO hcE
  go_upto_region 25 with (first | (go_at_call 55; refine (HC.out ▸ l1In_any (k : Int) 0 ((m : Int) - 1) _).mono ?_; rintro e w' ⟨rfl, hw'⟩; have hw' := hw'.symm; subst hw'; clear HC) | (go_at_call 55; refine (HC2.out ▸ l1In_any n (-1000) 1000000 _).mono ?_; rintro e w' ⟨rfl, hw'⟩; have hw' := hw'.symm; subst hw'; clear HC2))
  clear s0 s1 s2 s3 s4 s5 sz u0 uf0 u1 uf1 u2 uf2 u3 uf3 u4 uf4 u5 uf5 uz t0 t1 t2 tz q1 q2 q3
  have HX1 : Hid (LxS w0.drew lo w.heap.size sk nw g1 k1 cl ho un g2 k2 kn m ∧ Bx w0.drew (w.heap.size + 1) [.int .i64 4, .int .i64 (k : Int), .int .i64 n] ∧ Bx w0.drew (w.heap.size + 1 + 1) [.int .i64 0, .int .i64 0, .slice none 0 0, .int .i64 0, .int .i64 0, .slice none 0 0] ∧ Below w.heap.size w w0.drew ∧ atI cl k = c) := ⟨HX.out.1.next (below_drew _), HX.out.2.1.next (below_drew _), HX.out.2.2.1.next (below_drew _), below_next HX.out.2.2.2 (below_drew _), HCE.out⟩
  obtain ⟨X0, hX0⟩ : ∃ y, y = w0.drew := ⟨_, rfl⟩
  rw [← hX0] at HX1
  refine wp_region_noPanic ?_
  refine wp_region_held_drew (S := fun W => Bx W w.heap.size [.int .i64 sk, .int .i64 nw, .slice (some ⟨g1, 0, none⟩) m k1, .int .i64 ho, .int .i64 un, .slice (some ⟨g2, 0, none⟩) m k2] ∧ Bx W (w.heap.size + 1) [.int .i64 4, .int .i64 (k : Int), .int .i64 n]) (by kernel_rfl) (hX0 ▸ ⟨HX1.out.1.1, HX1.out.2.1⟩) (fun hHeld => ?_)
  rw [← hX0] at hHeld ⊢
  clear hX0
  refine take_v (v := ?_) 0 ⟨some 102, Op.fieldAddr 28 (Operand.tmp 2) 2, _, _, _, none⟩ rfl (fun _ _ _ h => h) ?_ hHeld ?_
  rotate_left
  · (intro W _; go_simp <;> (try with_reducible rfl))
  refine take_v (v := ?_) 1 ⟨some 103, Op.load 26 (Operand.tmp 102), _, _, _, none⟩ rfl (fun _ _ _ h => h) ?_ hHeld ?_
  rotate_left
  · (intro W hSW; (have s0 := hSW.1.cell 0 rfl; have s1 := hSW.1.cell 1 rfl; have s2 := hSW.1.cell 2 rfl; have s3 := hSW.1.cell 3 rfl; have s4 := hSW.1.cell 4 rfl; have s5 := hSW.1.cell 5 rfl; have sz := hSW.1.2; have t0 := hSW.2.cell 0 rfl; have t1 := hSW.2.cell 1 rfl; have t2 := hSW.2.cell 2 rfl; have tz := hSW.2.2); go_simp <;> (try with_reducible rfl))
  refine take_v (v := ?_) 2 ⟨some 104, Op.fieldAddr 34 (Operand.tmp 3) 1, _, _, _, none⟩ rfl (fun _ _ _ h => h) ?_ hHeld ?_
  rotate_left
  · (intro W _; go_simp <;> (try with_reducible rfl))
  refine take_v (v := ?_) 3 ⟨some 105, Op.load 3 (Operand.tmp 104), _, _, _, none⟩ rfl (fun _ _ _ h => h) ?_ hHeld ?_
  rotate_left
  · (intro W hSW; (have s0 := hSW.1.cell 0 rfl; have s1 := hSW.1.cell 1 rfl; have s2 := hSW.1.cell 2 rfl; have s3 := hSW.1.cell 3 rfl; have s4 := hSW.1.cell 4 rfl; have s5 := hSW.1.cell 5 rfl; have sz := hSW.1.2; have t0 := hSW.2.cell 0 rfl; have t1 := hSW.2.cell 1 rfl; have t2 := hSW.2.cell 2 rfl; have tz := hSW.2.2); go_simp <;> (try with_reducible rfl))
  refine take_v (v := ?_) 4 ⟨some 106, Op.indexAddr 26 (Operand.tmp 103) (Operand.tmp 105), _, _, _, none⟩ rfl (fun _ _ _ h => h) ?_ hHeld ?_
  rotate_left
  · (intro W _; go_simp <;> (try with_reducible rfl))
  refine take_v (v := ?_) 6 ⟨some 108, Op.fieldAddr 34 (Operand.tmp 3) 2, _, _, _, none⟩ rfl (fun _ _ _ h => h) ?_ hHeld ?_
  rotate_left
  · (intro W _; go_simp <;> (try with_reducible rfl))
  refine take_v (v := ?_) 7 ⟨some 109, Op.load 3 (Operand.tmp 108), _, _, _, none⟩ rfl (fun _ _ _ h => h) ?_ hHeld ?_
  rotate_left
  · (intro W hSW; (have s0 := hSW.1.cell 0 rfl; have s1 := hSW.1.cell 1 rfl; have s2 := hSW.1.cell 2 rfl; have s3 := hSW.1.cell 3 rfl; have s4 := hSW.1.cell 4 rfl; have s5 := hSW.1.cell 5 rfl; have sz := hSW.1.2; have t0 := hSW.2.cell 0 rfl; have t1 := hSW.2.cell 1 rfl; have t2 := hSW.2.cell 2 rfl; have tz := hSW.2.2); go_simp <;> (try with_reducible rfl))
  refine ready_call 5 ⟨some 107, Op.load 3 (Operand.tmp 106), _, _, _, none⟩ (by kernel_rfl) rfl (by kernel_rfl) (fun KC hK => ?_)
  obtain ⟨q1, q2, q3⟩ := HX1.out.1.2.1.at hkm
  rw [HX1.out.2.2.2.2] at q1
  go_wp2_with fail
  clear q1 q2 q3
  refine hK.out _ _ hHeld (fun hHeld => ?_)
  clear hK KC
  refine take_v (v := ?_) 8 ⟨some 110, Op.binOp BinOp.add 3 (Operand.tmp 107) (Operand.tmp 109) 3, _, _, _, none⟩ rfl (fun _ _ _ h => h) ?_ hHeld ?_
  rotate_left
  · (intro W _; go_simp <;> (try with_reducible rfl))
  refine take_v (v := ?_) 9 ⟨some 111, Op.indexAddr 26 (Operand.tmp 103) (Operand.tmp 105), _, _, _, none⟩ rfl (fun _ _ _ h => h) ?_ hHeld ?_
  rotate_left
  · (intro W _; go_simp <;> (try with_reducible rfl))
  refine ready_call 10 ⟨none, Op.store 3 (Operand.tmp 111) (Operand.tmp 110), _, _, _, none⟩ (by kernel_rfl) rfl (by kernel_rfl) (fun KC hK => ?_)
  obtain ⟨q1, q2, q3⟩ := HX1.out.1.2.1.at hkm
  go_wp2_with fail
  obtain ⟨w1, hw1⟩ : ∃ x, x = X0.setCell ⟨g1, k, none⟩ (.int .i64 (c + n)) := ⟨_, rfl⟩
  have HY : Hid (LxS w1 lo w.heap.size sk nw g1 k1 (cl.set k (c + n)) ho un g2 k2 kn m ∧ Bx w1 (w.heap.size + 1 + 1) [.int .i64 0, .int .i64 0, .slice none 0 0, .int .i64 0, .int .i64 0, .slice none 0 0] ∧ TurnS (fun k => k = g1 ∨ k = g2) w w1) := Hid.intro (by rw [hw1]; exact ⟨HX1.out.1.setC hkm _, HX1.out.2.2.1.other (by omega), (TurnS.of_below HX1.out.2.2.2.1).set (S := fun k => k = g1 ∨ k = g2) (p := ⟨g1, k, none⟩) (Or.inl rfl) _⟩)
  have HH : Hid (Bx w1 w.heap.size [.int .i64 sk, .int .i64 nw, .slice (some ⟨g1, 0, none⟩) m k1, .int .i64 ho, .int .i64 un, .slice (some ⟨g2, 0, none⟩) m k2] ∧ Bx w1 (w.heap.size + 1) [.int .i64 4, .int .i64 (k : Int), .int .i64 n]) := Hid.intro (by rw [hw1]; exact ⟨hHeld.1.other n5, hHeld.2.other (by omega)⟩)
  rw [← hw1]
  clear hw1 q1 q2 q3
  refine hK.out _ _ HH.out (fun hHeld => ?_)
  clear hK KC
  refine wpAnyH_done (by kernel_rfl) ?_ _
  refine NoPanic.normal ?_
  clear hHeld HH HX1 HX
  (obtain ⟨K, hK⟩ : ∃ y, y = cl.set k (c + n) := ⟨_, rfl⟩)
  rw [← hK] at HY HZ HO HSZ
  clear hK
  go_upto_region 26 with fail
  have HY1 : Hid (LxS w1.drew lo w.heap.size sk nw g1 k1 K ho un g2 k2 kn m ∧ Bx w1.drew (w.heap.size + 1 + 1) [.int .i64 0, .int .i64 0, .slice none 0 0, .int .i64 0, .int .i64 0, .slice none 0 0] ∧ TurnS (fun k => k = g1 ∨ k = g2) w w1.drew) := ⟨HY.out.1.next (below_drew _), HY.out.2.1.next (below_drew _), HY.out.2.2.next (below_drew _)⟩
  obtain ⟨X, hX⟩ : ∃ y, y = w1.drew := ⟨_, rfl⟩
  rw [← hX] at HY1
  refine wp_region_noPanic ?_
  refine wp_region_held_drew (S := fun W => Bx W w.heap.size [.int .i64 sk, .int .i64 nw, .slice (some ⟨g1, 0, none⟩) m k1, .int .i64 ho, .int .i64 un, .slice (some ⟨g2, 0, none⟩) m k2]) (by kernel_rfl) (hX ▸ HY1.out.1.1) (fun hHeld => ?_)
  rw [← hX] at hHeld ⊢
  clear hX
  refine take_v (v := ?_) 0 ⟨some 112, Op.load 28 (Operand.tmp 2), _, _, _, none⟩ rfl (fun _ _ _ h => h) ?_ hHeld ?_
  rotate_left
  · (intro W hSW; (have s0 := hSW.cell 0 rfl; have s1 := hSW.cell 1 rfl; have s2 := hSW.cell 2 rfl; have s3 := hSW.cell 3 rfl; have s4 := hSW.cell 4 rfl; have s5 := hSW.cell 5 rfl; have sz := hSW.2); go_simp <;> (try with_reducible rfl))
  refine take_v (v := ?_) 1 ⟨some 113, Op.load 28 (Operand.tmp 2), _, _, _, none⟩ rfl (fun _ _ _ h => h) ?_ hHeld ?_
  rotate_left
  · (intro W hSW; (have s0 := hSW.cell 0 rfl; have s1 := hSW.cell 1 rfl; have s2 := hSW.cell 2 rfl; have s3 := hSW.cell 3 rfl; have s4 := hSW.cell 4 rfl; have s5 := hSW.cell 5 rfl; have sz := hSW.2); go_simp <;> (try with_reducible rfl))
  refine ready_call 2 ⟨some 114, Op.call { callee := Callee.value (Operand.func 27), args := #[Operand.tmp 113], argTypes := #[28] }, _, _, _, none⟩ (by kernel_rfl) rfl (by kernel_rfl) (fun KC hK => ?_)
  go_wp2_with fail
  refine (HZ.out ▸ specGoodLeases_n [.int .i64 sk, .int .i64 nw, .slice (some ⟨g1, 0, none⟩) m k1, .int .i64 ho, .int .i64 un, .slice (some ⟨g2, 0, none⟩) m k2] sk nw K ho un kn _ HSZ.out (LeL.lies HY1.out.1.lel)).mono ?_
  rintro r X2 ⟨rfl, hb⟩
  have HY2 : Hid (LxS X2 lo w.heap.size sk nw g1 k1 K ho un g2 k2 kn m ∧ Bx X2 (w.heap.size + 1 + 1) [.int .i64 0, .int .i64 0, .slice none 0 0, .int .i64 0, .int .i64 0, .slice none 0 0] ∧ TurnS (fun k => k = g1 ∨ k = g2) w X2) := ⟨HY1.out.1.next hb, HY1.out.2.1.next hb, HY1.out.2.2.next hb⟩
  clear hb
  refine hK.out _ _ HY2.out.1.1 (fun hHeld => ?_)
  clear hK KC
  refine ready_call 3 ⟨none, Op.store 28 (Operand.tmp 4) (Operand.tmp 112), _, _, _, none⟩ (by kernel_rfl) rfl (by kernel_rfl) (fun KC hK => ?_)
  have u0 := HY2.out.2.1.cell 0 rfl
  have u1 := HY2.out.2.1.cell 1 rfl
  have u2 := HY2.out.2.1.cell 2 rfl
  have u3 := HY2.out.2.1.cell 3 rfl
  have u4 := HY2.out.2.1.cell 4 rfl
  have u5 := HY2.out.2.1.cell 5 rfl
  have uz := HY2.out.2.1.2
  have uf0 := HY2.out.2.1.frz 0 (by simp)
  have uf1 := HY2.out.2.1.frz 1 (by simp)
  have uf2 := HY2.out.2.1.frz 2 (by simp)
  have uf3 := HY2.out.2.1.frz 3 (by simp)
  have uf4 := HY2.out.2.1.frz 4 (by simp)
  have uf5 := HY2.out.2.1.frz 5 (by simp)
  go_wp2_with fail
  refine hK.out _ _ ((((((hHeld.other (by omega)).other (by omega)).other (by omega)).other (by omega)).other (by omega)).other (by omega)) (fun hHeld => ?_)
  clear hK KC
  refine take_v (v := ?_) 4 ⟨some 5, Op.assign (Operand.tmp 114), _, _, _, none⟩ rfl (fun _ _ _ h => h) ?_ hHeld ?_
  rotate_left
  · (intro W _; go_simp <;> (try with_reducible rfl))
  refine wpAnyH_done (by kernel_rfl) ?_ _
  refine NoPanic.normal ?_
  clear hHeld
  go_wp2_with fail
  exact bodyPost_ret (v := .tuple #[.agg #[.int .i64 sk, .int .i64 nw, .slice (some ⟨g1, 0, none⟩) m k1, .int .i64 ho, .int .i64 un, .slice (some ⟨g2, 0, none⟩) m k2], .bool z]) (by simp [results, Try.results42, go_sem, *]) rfl (L1P.end' HY2.out.1 HY2.out.2.2 HO.out.1 HO.out.2 (set6 X2 (w.heap.size + 1 + 1) _ _ _ _ _ _) (by omega) n1 n2)


set_option maxRecDepth 100000 in
set_option maxHeartbeats 4000000 in
theorem l11Step5_n (lo : Nat) (sk nw : Int) (g1 k1 : Nat) (cl : List (Sh.T .int)) (ho un : Int) (g2 k2 : Nat) (kn : List (Sh.T .int)) (m : Nat) (a b n : Int) (w : World) (e1 : ¬ a = 1) (e2 : ¬ a = 2) (e3 : ¬ a = 3) (e4 : ¬ a = 4) (hg : goodL sk nw cl ho un kn) (r1 : Rw 3 w lo g1 k1 cl m) (r2 : Rw 3 w lo g2 k2 kn m) (hne : g1 ≠ g2) :
    Calls Try.prog 42 #[.agg #[.int .i64 sk, .int .i64 nw, .slice (some ⟨g1, 0, none⟩) m k1, .int .i64 ho, .int .i64 un, .slice (some ⟨g2, 0, none⟩) m k2], .agg #[.int .i64 a, .int .i64 b, .int .i64 n]] w (L1P (leB sk nw cl ho un kn a b n) w lo g1 k1 g2 k2 m) := by
  have HG := Hid.intro hg
  have HM : Hid (cl.length = m ∧ kn.length = m) := ⟨r1.2, r2.2⟩
  have hm12 : m ≤ 12 := by have h1 := hg.2.2.2.1; rw [r1.2] at h1; omega
  have hm30 : m ≤ 1073741824 := by omega
  have hnw1 := hg.2.1.1
  have hnw2 := hg.2.1.2
  have hun1 := hg.2.2.1.1
  have hun2 := hg.2.2.1.2
  obtain ⟨w0, hw0⟩ : ∃ x, x = ((w.alloc (.cells #[.int .i64 sk, .int .i64 nw, .slice (some ⟨g1, 0, none⟩) m k1, .int .i64 ho, .int .i64 un, .slice (some ⟨g2, 0, none⟩) m k2] 28)).alloc (.cells #[.int .i64 a, .int .i64 b, .int .i64 n] 34)).alloc (.cells #[.int .i64 0, .int .i64 0, .slice none 0 0, .int .i64 0, .int .i64 0, .slice none 0 0] 28) := ⟨_, rfl⟩
  have hb0 : Below w.heap.size w w0 := hw0 ▸ (((Below.refl _ _).alloc (Nat.le_refl _) _).alloc (by simp) _).alloc (by simp; omega) _
  have HX : Hid (LxS w0 lo w.heap.size sk nw g1 k1 cl ho un g2 k2 kn m ∧ Bx w0 (w.heap.size + 1) [.int .i64 a, .int .i64 b, .int .i64 n] ∧ Bx w0 (w.heap.size + 1 + 1) [.int .i64 0, .int .i64 0, .slice none 0 0, .int .i64 0, .int .i64 0, .slice none 0 0] ∧ Below w.heap.size w w0) :=
    ⟨⟨hw0 ▸ ((Bx.new w [_, _, _, _, _, _] _).alloc _).alloc _, r1.next hb0, r2.next hb0, hne, Nat.ne_of_gt r1.lt.1, Nat.ne_of_gt r2.lt.1⟩, hw0 ▸ (Bx.newAt (by simp)).alloc _, hw0 ▸ Bx.newAt (by simp), hb0⟩
  have hl1 : g1 < w.heap.size := r1.lt.1
  have hl2 : g2 < w.heap.size := r2.lt.1
  have n1 : g1 ≠ w.heap.size + 1 + 1 := by omega
  have n2 : g2 ≠ w.heap.size + 1 + 1 := by omega
  have n3 : g1 ≠ w.heap.size := by omega
  have n4 : g2 ≠ w.heap.size := by omega
  have n5 : w.heap.size ≠ g1 := by omega
  have n6 : w.heap.size ≠ g2 := by omega
  have n7 : g1 ≠ w.heap.size + 1 := by omega
  have n8 : g2 ≠ w.heap.size + 1 := by omega
  have hw0z : Hid (w0.heap.size = w.heap.size + 3) := Hid.intro (by rw [hw0]; simp)
  have s0 := HX.out.1.1.cell 0 rfl
  have s1 := HX.out.1.1.cell 1 rfl
  have s2 := HX.out.1.1.cell 2 rfl
  have s3 := HX.out.1.1.cell 3 rfl
  have s4 := HX.out.1.1.cell 4 rfl
  have s5 := HX.out.1.1.cell 5 rfl
  have sz := HX.out.1.1.2
  have t0 := HX.out.2.1.cell 0 rfl
  have t1 := HX.out.2.1.cell 1 rfl
  have t2 := HX.out.2.1.cell 2 rfl
  have tz := HX.out.2.1.2
  have u0 := HX.out.2.2.1.cell 0 rfl
  have u1 := HX.out.2.2.1.cell 1 rfl
  have u2 := HX.out.2.2.1.cell 2 rfl
  have u3 := HX.out.2.2.1.cell 3 rfl
  have u4 := HX.out.2.2.1.cell 4 rfl
  have u5 := HX.out.2.2.1.cell 5 rfl
  have uz := HX.out.2.2.1.2
  have uf0 := HX.out.2.2.1.frz 0 (by simp)
  have uf1 := HX.out.2.2.1.frz 1 (by simp)
  have uf2 := HX.out.2.2.1.frz 2 (by simp)
  have uf3 := HX.out.2.2.1.frz 3 (by simp)
  have uf4 := HX.out.2.2.1.frz 4 (by simp)
  have uf5 := HX.out.2.2.1.frz 5 (by simp)
  have hpq : Hid (goodL sk nw cl ho un kn) := hg
  clear r1 r2 hne hg hb0
  go_enter Try.func42, Try.ntmps42
  go_upto_region 1 with fail
  rw [← hw0]
  clear hw0
  have HN : Hid (leB sk nw cl ho un kn a b n = none) := Hid.intro (le5 e1 e2 e3 e4)
  cases c1 : inR b 0 ((m : Int) - 1)
  · have HC : Hid (inR b 0 ((m : Int) - 1) = false) := c1
    clear c1
    go_wp2_with (go_at_call 55; refine (HC.out ▸ l1In_any b 0 ((m : Int) - 1) _).mono ?_; rintro e w' ⟨rfl, hw'⟩; have hw' := hw'.symm; subst hw'; clear HC)
    exact bodyPost_ret (v := .tuple #[.agg #[.int .i64 sk, .int .i64 nw, .slice (some ⟨g1, 0, none⟩) m k1, .int .i64 ho, .int .i64 un, .slice (some ⟨g2, 0, none⟩) m k2], .bool false]) (by simp [results, Try.results42, go_sem, *]) rfl (L1P.end' HX.out.1 (TurnS.of_below HX.out.2.2.2) (by rw [HN.out]; rfl) (fun y q => by rw [HN.out] at q; cases q) (set6 w0 (w.heap.size + 1 + 1) _ _ _ _ _ _) (by omega) n1 n2)
  · have HC : Hid (inR b 0 ((m : Int) - 1) = true) := c1
    clear c1
    go_wp2_with (go_at_call 55; refine (HC.out ▸ l1In_any b 0 ((m : Int) - 1) _).mono ?_; rintro e w' ⟨rfl, hw'⟩; have hw' := hw'.symm; subst hw'; clear HC)
    exact bodyPost_ret (v := .tuple #[.agg #[.int .i64 sk, .int .i64 nw, .slice (some ⟨g1, 0, none⟩) m k1, .int .i64 ho, .int .i64 un, .slice (some ⟨g2, 0, none⟩) m k2], .bool false]) (by simp [results, Try.results42, go_sem, *]) rfl (L1P.end' HX.out.1 (TurnS.of_below HX.out.2.2.2) (by rw [HN.out]; rfl) (fun y q => by rw [HN.out] at q; cases q) (set6 w0 (w.heap.size + 1 + 1) _ _ _ _ _ _) (by omega) n1 n2)


set_option maxRecDepth 100000 in
set_option maxHeartbeats 4000000 in
theorem l11Step_n (lo : Nat) (sk nw : Int) (g1 k1 : Nat) (cl : List (Sh.T .int)) (ho un : Int) (g2 k2 : Nat) (kn : List (Sh.T .int)) (m : Nat) (a b n : Int) (w : World) (hg : goodL sk nw cl ho un kn) (r1 : Rw 3 w lo g1 k1 cl m) (r2 : Rw 3 w lo g2 k2 kn m) (hne : g1 ≠ g2) :
    Calls Try.prog 42 #[.agg #[.int .i64 sk, .int .i64 nw, .slice (some ⟨g1, 0, none⟩) m k1, .int .i64 ho, .int .i64 un, .slice (some ⟨g2, 0, none⟩) m k2], .agg #[.int .i64 a, .int .i64 b, .int .i64 n]] w (L1P (leB sk nw cl ho un kn a b n) w lo g1 k1 g2 k2 m) := by
  by_cases e1 : a = 1
  · subst e1; exact l11Step1_n lo sk nw g1 k1 cl ho un g2 k2 kn m b n w hg r1 r2 hne
  by_cases e2 : a = 2
  · subst e2; exact l11Step2_n lo sk nw g1 k1 cl ho un g2 k2 kn m b n w hg r1 r2 hne
  by_cases e3 : a = 3
  · subst e3; exact l11Step3_n lo sk nw g1 k1 cl ho un g2 k2 kn m b n w hg r1 r2 hne
  by_cases e4 : a = 4
  · subst e4; exact l11Step4_n lo sk nw g1 k1 cl ho un g2 k2 kn m b n w hg r1 r2 hne
  exact l11Step5_n lo sk nw g1 k1 cl ho un g2 k2 kn m a b n w e1 e2 e3 e4 hg r1 r2 hne

end Go.Proofs.Ytidalpgkljafdaa
