/- Counters are put together in any order and as often as one likes, and what one actor counts is in the sum, for drawn counters: the law FnCounters, at every two lists of bytes. No condition. -/
import Derived.Test.YtnglgndocmkbfaaDcL
import Derived.Test.YtnglgndocmkbfaaOpenBE
import Derived.Test.YtnglgndocmkbfaaWords
import Derived.ProofKit
import Derived.OpenShut
import Derived.ShutString
import Derived.ChangeOld
import Derived.Below
import Derived.Lib.SmallJoins
namespace Go.Proofs.Ytnglgndocmkbfaa.fCounters
open Go.ChangeShapes Go.WideShapes Go.ChangeAt Go.RowKit
open Go.ChangeMaps (open_string shut_string)
set_option linter.unusedVariables false

theorem ct_six {u d : List (Sh.T .int)} (h1 : u.length ≤ 6) (h2 : d.length ≤ 6) : szD shCounter (u, d, ()) ≤ 1073741824 := by
  have e : szD shCounter (u, d, ()) = (u.length + (u.map (szD .int)).sum) + ((d.length + (d.map (szD .int)).sum) + 0) := rfl
  have z : ∀ l : List (Sh.T .int), (l.map (szD .int)).sum = 0 := by
    intro l
    induction l with
    | nil => rfl
    | cons x t ih => rw [List.map_cons, List.sum_cons, ih]; rfl
  rw [e, z, z]; omega
theorem len_mcA {u d u2 d2 U D : List (Sh.T .int)} {z : Bool} (h : mcA u d u2 d2 = (U, D, z)) : U.length ≤ 6 ∧ D.length ≤ 6 := by
  by_cases c : goodC u d ∧ goodC u2 d2
  · rw [mcA_yes c] at h
    cases h
    exact ⟨Nat.le_of_eq (mxL_len _ _), Nat.le_of_eq (mxL_len _ _)⟩
  · rw [mcA_no c] at h
    cases h
    simp
theorem len_cbA {u d U D : List (Sh.T .int)} {a b : Int} {z : Bool} (h : cbA u d a b = (U, D, z)) : U.length ≤ 6 ∧ D.length ≤ 6 := by
  by_cases c : cbP u d a b
  · rw [cbA_yes c] at h
    cases h
    exact ⟨Nat.le_of_eq c.2.2.2.1.1, Nat.le_of_eq c.2.2.2.2.1⟩
  · rw [cbA_no c] at h
    cases h
    simp
theorem mc_good {u d u2 d2 U D : List (Sh.T .int)} (h : mcA u d u2 d2 = (U, D, true)) : goodC u d ∧ goodC u2 d2 ∧ U = mxL u u2 ∧ D = mxL d d2 := by
  by_cases c : goodC u d ∧ goodC u2 d2
  · rw [mcA_yes c] at h
    cases h
    exact ⟨c.1, c.2, rfl, rfl⟩
  · rw [mcA_no c] at h
    cases h
theorem cb_good {u d U D : List (Sh.T .int)} {a b : Int} (h : cbA u d a b = (U, D, true)) : cbP u d a b ∧ U = cbU u a b ∧ D = cbD d a b := by
  by_cases c : cbP u d a b
  · rw [cbA_yes c] at h
    cases h
    exact ⟨c, rfl, rfl⟩
  · rw [cbA_no c] at h
    cases h
theorem mxL_good {u v : List (Sh.T .int)} (h : cntR u) (k : cntR v) : cntR (mxL u v) := by
  refine ⟨mxL_len _ _, fun i hi => ?_⟩
  rw [mxL_len] at hi
  rw [mxL_at hi]
  have h1 := h.2 i (by rw [h.1]; exact hi)
  have h2 := k.2 i (by rw [k.1]; exact hi)
  unfold cntK at *
  omega
theorem mx_good {u d u2 d2 : List (Sh.T .int)} (h : goodC u d) (k : goodC u2 d2) : goodC (mxL u u2) (mxL d d2) := ⟨mxL_good h.1 k.1, mxL_good h.2 k.2⟩
theorem mxL_comm (u v : List (Sh.T .int)) : mxL u v = mxL v u := ints_ext (mxL_len _ _) (mxL_len _ _) (fun k hk => by rw [mxL_at hk, mxL_at hk]; omega)
theorem mxL_assoc (u v x : List (Sh.T .int)) : mxL (mxL u v) x = mxL u (mxL v x) := ints_ext (mxL_len _ _) (mxL_len _ _) (fun k hk => by rw [mxL_at hk, mxL_at hk, mxL_at hk, mxL_at hk]; omega)
theorem mxL_self {u : List (Sh.T .int)} (h : u.length = 6) : mxL u u = u := ints_ext (mxL_len _ _) h (fun k hk => by rw [mxL_at hk]; omega)
theorem cb_mx {u d : List (Sh.T .int)} {a b : Int} (h : cbP u d a b) : mxL u (cbU u a b) = cbU u a b ∧ mxL d (cbD d a b) = cbD d a b := by
  have hu := h.1.1.1
  have hd := h.1.2.1
  have ha := h.2.1
  have hU := h.2.2.2.1.1
  have hD := h.2.2.2.2.1
  refine ⟨ints_ext (mxL_len _ _) hU (fun k hk => ?_), ints_ext (mxL_len _ _) hD (fun k hk => ?_)⟩
  · rw [mxL_at hk]
    unfold cbU
    by_cases c : 0 ≤ b
    · rw [if_pos c, atI_set (by rw [hu]; omega)]
      by_cases e : k = a.toNat
      · rw [if_pos e, e]; omega
      · rw [if_neg e]; omega
    · rw [if_neg c]; omega
  · rw [mxL_at hk]
    unfold cbD
    by_cases c : 0 ≤ b
    · rw [if_pos c]; omega
    · rw [if_neg c, atI_set (by rw [hd]; omega)]
      by_cases e : k = a.toNat
      · rw [if_pos e, e]; omega
      · rw [if_neg e]; omega
theorem sum_set : ∀ (l : List Int) (k : Nat) (x : Int), k < l.length → (l.set k x).sum = l.sum - atI l k + x
  | [], k, x, h => by simp at h
  | y :: t, 0, x, h => by simp [atI]; omega
  | y :: t, k + 1, x, h => by
    have ih := sum_set t k x (by simpa using h)
    have e : atI (y :: t) (k + 1) = atI t k := by simp [atI]
    rw [List.set_cons_succ, List.sum_cons, List.sum_cons, ih, e]; omega
theorem sub1 (u d : List Int) (k : Nat) (b : Int) (hk : k < u.length) : (u.set k (atI u k + b)).sum - d.sum = u.sum - d.sum + b := by rw [sum_set u k _ hk]; omega
theorem sub2 (u d : List Int) (k : Nat) (b : Int) (hk : k < d.length) : u.sum - (d.set k (atI d k - b)).sum = u.sum - d.sum + b := by rw [sum_set d k _ hk]; omega
theorem vo_cb {u d : List (Sh.T .int)} {a b : Int} (h : cbP u d a b) : ∃ v, voA u d = (v, true) ∧ voA (cbU u a b) (cbD d a b) = (v + b, true) ∧ -1000000000 ≤ v ∧ v ≤ 1000000000 := by
  have h1 := sumK_bd h.1.1.2 u.length (Nat.le_refl _)
  have h2 := sumK_bd h.1.2.2 d.length (Nat.le_refl _)
  have hu := h.1.1.1
  have hd := h.1.2.1
  have ha := h.2.1
  refine ⟨_, voA_yes h.1, ?_, by omega, by omega⟩
  rw [voA_yes h.2.2.2, sumK_all, sumK_all, sumK_all, sumK_all]
  refine Prod.ext ?_ rfl
  unfold cbU cbD
  by_cases c : 0 ≤ b
  · rw [if_pos c, if_pos c]
    exact sub1 u d _ b (Nat.lt_of_lt_of_eq (by omega : a.toNat < 6) hu.symm)
  · rw [if_neg c, if_neg c]
    exact sub2 u d _ b (Nat.lt_of_lt_of_eq (by omega : a.toNat < 6) hd.symm)
theorem mc_cb {cu cd DU DV : List (Sh.T .int)} {a b : Int} (h : cbA cu cd a b = (DU, DV, true)) : mcA cu cd DU DV = (DU, DV, true) := by
  obtain ⟨hp, rfl, rfl⟩ := cb_good h
  rw [mcA_yes ⟨hp.1, hp.2.2.2⟩, (cb_mx hp).1, (cb_mx hp).2]
theorem vo_two {cu cd DU DV : List (Sh.T .int)} {a b : Int} (h : cbA cu cd a b = (DU, DV, true)) : ∃ v, voA cu cd = (v, true) ∧ voA DU DV = (v + b, true) ∧ wrap64 (v + b) = v + b ∧ IntKind.i64.wrap (v + b) = v + b ∧ goodC cu cd := by
  obtain ⟨hp, rfl, rfl⟩ := cb_good h
  obtain ⟨v, h1, h2, h3, h4⟩ := vo_cb hp
  have hr := hp.2.2.1
  have e : IntKind.i64.wrap (v + b) = v + b := by rw [IntKind.wrap_i64]; omega
  exact ⟨v, h1, h2, by unfold wrap64; omega, e, hp.1⟩
theorem mc_comm {u d u2 d2 U D : List (Sh.T .int)} (h : mcA u d u2 d2 = (U, D, true)) : mcA u2 d2 u d = (U, D, true) := by
  obtain ⟨h1, h2, rfl, rfl⟩ := mc_good h
  rw [mcA_yes ⟨h2, h1⟩, mxL_comm u2, mxL_comm d2]
theorem mc_self {u d u2 d2 U D : List (Sh.T .int)} (h : mcA u d u2 d2 = (U, D, true)) : mcA U D U D = (U, D, true) := by
  obtain ⟨h1, h2, rfl, rfl⟩ := mc_good h
  rw [mcA_yes ⟨mx_good h1 h2, mx_good h1 h2⟩, mxL_self (mxL_len _ _), mxL_self (mxL_len _ _)]
theorem mc_third {u d u2 d2 u3 d3 U D : List (Sh.T .int)} (h : mcA u d u2 d2 = (U, D, true)) (h3 : goodC u3 d3) : ∃ L1 L2 Q1 Q2, mcA U D u3 d3 = (L1, L2, true) ∧ mcA u2 d2 u3 d3 = (Q1, Q2, true) ∧ mcA u d Q1 Q2 = (L1, L2, true) := by
  obtain ⟨h1, h2, rfl, rfl⟩ := mc_good h
  exact ⟨_, _, _, _, mcA_yes ⟨mx_good h1 h2, h3⟩, mcA_yes ⟨h2, h3⟩, by rw [mcA_yes ⟨h1, mx_good h2 h3⟩, mxL_assoc, mxL_assoc]⟩
theorem vo_l (cs : List Value) (u d : List (Sh.T .int)) (w : World) (v : Int) (hA : voA u d = (v, true)) (hz : szD shCounter (u, d, ()) ≤ 1073741824) (h : Lies w shCounter cs (u, d, ())) :
    Calls Try.prog 23 #[.agg cs.toArray] w fun r w' => r = .returned (.tuple #[.int .i64 v, .bool true]) ∧ Below w.heap.size w w' := by
  have h1 := valueOf_n cs u d w hz h
  unfold VoP at h1
  rw [hA] at h1
  exact h1
theorem gc_l (cs : List Value) (u d : List (Sh.T .int)) (w : World) (z : Bool) (hA : tf (goodC u d) = z) (hz : szD shCounter (u, d, ()) ≤ 1073741824) (h : Lies w shCounter cs (u, d, ())) :
    Calls Try.prog 24 #[.agg cs.toArray] w fun r w' => r = .returned (.bool z) ∧ Below w.heap.size w w' := by
  have h1 := specGoodCounter_n cs u d w hz h
  rw [hA] at h1
  exact h1
theorem w64n {n : Int} (h0 : -9223372036854775808 ≤ n) (h1 : n ≤ 9223372036854775807) : IntKind.i64.wrap n = n := by
  rw [IntKind.wrap_i64]; omega
set_option maxRecDepth 100000 in
set_option maxHeartbeats 16000000 in
theorem walk (a : Option Addr) (n cap : Nat) (X : Nat → Int) (w : World) (hm : n ≤ maxLen) (hs : Sl w a n 1 (byF X)) (hX : ∀ i, i < n → 0 ≤ X i ∧ X i ≤ 255)
    (a' : Option Addr) (n' cap' : Nat) (Y : Nat → Int) (hm' : n' ≤ maxLen) (hs' : Sl w a' n' 1 (byF Y)) (hY : ∀ i, i < n' → 0 ≤ Y i ∧ Y i ≤ 255) :
    Calls Try.prog 3 #[.slice a n cap, .slice a' n' cap'] w fun r w' => r = .returned (.bool true) ∧ Below w.heap.size w w' := by
  unfold maxLen at hm hm'
  have HS : Hid ((Sl w a n 1 (byF X) ∧ ∀ i, i < n → 0 ≤ X i ∧ X i ≤ 255) ∧ Sl w a' n' 1 (byF Y) ∧ ∀ i, i < n' → 0 ≤ Y i ∧ Y i ≤ 255) := ⟨⟨hs, hX⟩, hs', hY⟩
  clear hs hs' hX hY
  by_cases hlt : (1048576 : Int) < wrap64 ((n : Int) + (n' : Int))
  case pos =>
    go_enter Try.func3, Try.ntmps3
    go_wp2
    go_ret
    exact ⟨rfl, Below.refl _ _⟩
  case neg =>
  go_enter Try.func3, Try.ntmps3
  go_wp2_with fail
  refine (drawMergeC_any _ _ _ X _ (by omega) HS.out.1.1 HS.out.1.2).mono ?_
  rintro r w1 ⟨u, d, p1, k1, p2, k2, uu, dd, q1, j1, q2, j2, hl, rfl, h1, h2, hb⟩
  have HB1 : Hid (Below w.heap.size w w1) := below_next (Below.refl _ _) hb
  have sz1 : w.heap.size ≤ w1.heap.size := hb.size
  have LA_1 : Hid (Lies w1 shCounter [.slice p1 u.length k1, .slice p2 d.length k2] (u, d, ())) := h1
  have LB_1 : Hid (Lies w1 shCounter [.slice q1 uu.length j1, .slice q2 dd.length j2] (uu, dd, ())) := h2
  clear hb h1 h2
  have HZA := Hid.intro (ct_six hl.1 hl.2.1)
  have HZB := Hid.intro (ct_six hl.2.2.1 hl.2.2.2)
  have HLA := Hid.intro hl
  clear hl
  go_wp2_with fail
  obtain ⟨w2, hw2⟩ : ∃ x, x = w1.alloc (.cells #[.slice p1 u.length k1, .slice p2 d.length k2] 25) := ⟨_, rfl⟩
  have hb : Below w1.heap.size w1 w2 := hw2 ▸ Go.Joins.below_alloc1 _ _
  have HB2 : Hid (Below w.heap.size w w2) := below_next HB1.out hb
  have sz2 : w1.heap.size < w2.heap.size := by rw [hw2]; simp
  have LA_2 : Hid (Lies w2 shCounter [.slice p1 u.length k1, .slice p2 d.length k2] (u, d, ())) := LA_1.out.next hb
  have LB_2 : Hid (Lies w2 shCounter [.slice q1 uu.length j1, .slice q2 dd.length j2] (uu, dd, ())) := LB_1.out.next hb
  have A_2 : Hid (Bx w2 w1.heap.size [.slice p1 u.length k1, .slice p2 d.length k2]) := hw2 ▸ Bx.new w1 [.slice p1 u.length k1, .slice p2 d.length k2] _
  have HZ2 : Hid (w2.heap.size = w1.heap.size + 1) := Hid.intro (by rw [hw2]; simp)
  rw [← hw2]
  clear hb hw2 LA_1 LB_1 HB1
  obtain ⟨w3, hw3⟩ : ∃ x, x = w2.alloc (.cells #[.slice q1 uu.length j1, .slice q2 dd.length j2] 25) := ⟨_, rfl⟩
  have hb : Below w2.heap.size w2 w3 := hw3 ▸ Go.Joins.below_alloc1 _ _
  have HB3 : Hid (Below w.heap.size w w3) := below_next HB2.out hb
  have sz3 : w2.heap.size < w3.heap.size := by rw [hw3]; simp
  have LA_3 : Hid (Lies w3 shCounter [.slice p1 u.length k1, .slice p2 d.length k2] (u, d, ())) := LA_2.out.next hb
  have LB_3 : Hid (Lies w3 shCounter [.slice q1 uu.length j1, .slice q2 dd.length j2] (uu, dd, ())) := LB_2.out.next hb
  have A_3 : Hid (Bx w3 w1.heap.size [.slice p1 u.length k1, .slice p2 d.length k2]) := A_2.out.next hb
  have B_3 : Hid (Bx w3 (w1.heap.size + 1) [.slice q1 uu.length j1, .slice q2 dd.length j2]) := hw3 ▸ Bx.newAt HZ2.out
  rw [← hw3]
  clear hb hw3 LA_2 LB_2 A_2 HB2
  refine (drawCountC_any _ _ _ Y _ (by omega) (HS.out.2.1.kept HB3.out) HS.out.2.2).mono ?_
  rintro r w4 ⟨cu, cd, e1, f1, e2, f2, sa, sb, hl, rfl, h3, hb⟩
  have HB4 : Hid (Below w.heap.size w w4) := below_next HB3.out hb
  have sz4 : w3.heap.size ≤ w4.heap.size := hb.size
  have LA_4 : Hid (Lies w4 shCounter [.slice p1 u.length k1, .slice p2 d.length k2] (u, d, ())) := LA_3.out.next hb
  have LB_4 : Hid (Lies w4 shCounter [.slice q1 uu.length j1, .slice q2 dd.length j2] (uu, dd, ())) := LB_3.out.next hb
  have A_4 : Hid (Bx w4 w1.heap.size [.slice p1 u.length k1, .slice p2 d.length k2]) := A_3.out.next hb
  have B_4 : Hid (Bx w4 (w1.heap.size + 1) [.slice q1 uu.length j1, .slice q2 dd.length j2]) := B_3.out.next hb
  have LC_4 : Hid (Lies w4 shCounter [.slice e1 cu.length f1, .slice e2 cd.length f2] (cu, cd, ())) := h3
  clear hb h3 LA_3 LB_3 A_3 B_3 HB3
  have HZC := Hid.intro (ct_six hl.1 hl.2)
  have HLC := Hid.intro hl
  clear hl
  have cA0 := A_4.out.cell 0 rfl
  have cA1 := A_4.out.cell 1 rfl
  have zA := A_4.out.2
  have cB0 := B_4.out.cell 0 rfl
  have cB1 := B_4.out.cell 1 rfl
  have zB := B_4.out.2
  go_wp2_with fail
  obtain ⟨w5, hw5⟩ : ∃ x, x = w4.alloc (.cells #[.slice e1 cu.length f1, .slice e2 cd.length f2] 25) := ⟨_, rfl⟩
  have hb : Below w4.heap.size w4 w5 := hw5 ▸ Go.Joins.below_alloc1 _ _
  have HB5 : Hid (Below w.heap.size w w5) := below_next HB4.out hb
  have sz5 : w4.heap.size < w5.heap.size := by rw [hw5]; simp
  have LA_5 : Hid (Lies w5 shCounter [.slice p1 u.length k1, .slice p2 d.length k2] (u, d, ())) := LA_4.out.next hb
  have LB_5 : Hid (Lies w5 shCounter [.slice q1 uu.length j1, .slice q2 dd.length j2] (uu, dd, ())) := LB_4.out.next hb
  have A_5 : Hid (Bx w5 w1.heap.size [.slice p1 u.length k1, .slice p2 d.length k2]) := A_4.out.next hb
  have B_5 : Hid (Bx w5 (w1.heap.size + 1) [.slice q1 uu.length j1, .slice q2 dd.length j2]) := B_4.out.next hb
  have LC_5 : Hid (Lies w5 shCounter [.slice e1 cu.length f1, .slice e2 cd.length f2] (cu, cd, ())) := LC_4.out.next hb
  have C_5 : Hid (Bx w5 w4.heap.size [.slice e1 cu.length f1, .slice e2 cd.length f2]) := hw5 ▸ Bx.new w4 [.slice e1 cu.length f1, .slice e2 cd.length f2] _
  rw [← hw5]
  clear hb hw5 cA0 cA1 zA cB0 cB1 zB LA_4 LB_4 A_4 B_4 LC_4 HB4
  obtain ⟨U, V, z, hA⟩ : ∃ U V z, mcA u d uu dd = (U, V, z) := ⟨_, _, _, rfl⟩
  have HM : Hid (mcA u d uu dd = (U, V, z)) := hA
  have HZM := Hid.intro (sz_mcA hA)
  have HLM := Hid.intro (len_mcA hA)
  clear hA
  obtain ⟨DU, DV, y, hA⟩ : ∃ U V z, cbA cu cd sa sb = (U, V, z) := ⟨_, _, _, rfl⟩
  have HCB : Hid (cbA cu cd sa sb = (DU, DV, y)) := hA
  have HZD := Hid.intro (sz_cbA hA)
  have HLD := Hid.intro (len_cbA hA)
  clear hA
  refine (mergeCounter_l [.slice p1 u.length k1, .slice p2 d.length k2] [.slice q1 uu.length j1, .slice q2 dd.length j2] u d uu dd _ U V z HM.out HZA.out HZB.out LA_5.out LB_5.out).mono ?_
  rintro r w6 ⟨cs9, rfl, ho, hb⟩
  obtain ⟨p6_1, q6_1, _, p6_2, q6_2, _, hev, _⟩ := own_Counter ho
  subst hev
  have HB6 : Hid (Below w.heap.size w w6) := below_next HB5.out hb
  have sz6 : w5.heap.size ≤ w6.heap.size := hb.size
  have LA_6 : Hid (Lies w6 shCounter [.slice p1 u.length k1, .slice p2 d.length k2] (u, d, ())) := LA_5.out.next hb
  have LB_6 : Hid (Lies w6 shCounter [.slice q1 uu.length j1, .slice q2 dd.length j2] (uu, dd, ())) := LB_5.out.next hb
  have A_6 : Hid (Bx w6 w1.heap.size [.slice p1 u.length k1, .slice p2 d.length k2]) := A_5.out.next hb
  have B_6 : Hid (Bx w6 (w1.heap.size + 1) [.slice q1 uu.length j1, .slice q2 dd.length j2]) := B_5.out.next hb
  have LC_6 : Hid (Lies w6 shCounter [.slice e1 cu.length f1, .slice e2 cd.length f2] (cu, cd, ())) := LC_5.out.next hb
  have C_6 : Hid (Bx w6 w4.heap.size [.slice e1 cu.length f1, .slice e2 cd.length f2]) := C_5.out.next hb
  have GP_6 : Hid (Own w6 shCounter [.slice p6_1 U.length q6_1, .slice p6_2 V.length q6_2] (U, V, ()) (Btw w5.heap.size w6.heap.size)) := ho
  clear hb ho LA_5 LB_5 A_5 B_5 LC_5 C_5 HB5
  have cA0 := A_6.out.cell 0 rfl
  have cA1 := A_6.out.cell 1 rfl
  have zA := A_6.out.2
  have cB0 := B_6.out.cell 0 rfl
  have cB1 := B_6.out.cell 1 rfl
  have zB := B_6.out.2
  go_wp2_with fail
  obtain ⟨w7, hw7⟩ : ∃ x, x = w6.alloc (.cells #[.slice p6_1 U.length q6_1, .slice p6_2 V.length q6_2] 25) := ⟨_, rfl⟩
  have hb : Below w6.heap.size w6 w7 := hw7 ▸ Go.Joins.below_alloc1 _ _
  have HB7 : Hid (Below w.heap.size w w7) := below_next HB6.out hb
  have sz7 : w6.heap.size < w7.heap.size := by rw [hw7]; simp
  have LA_7 : Hid (Lies w7 shCounter [.slice p1 u.length k1, .slice p2 d.length k2] (u, d, ())) := LA_6.out.next hb
  have LB_7 : Hid (Lies w7 shCounter [.slice q1 uu.length j1, .slice q2 dd.length j2] (uu, dd, ())) := LB_6.out.next hb
  have A_7 : Hid (Bx w7 w1.heap.size [.slice p1 u.length k1, .slice p2 d.length k2]) := A_6.out.next hb
  have B_7 : Hid (Bx w7 (w1.heap.size + 1) [.slice q1 uu.length j1, .slice q2 dd.length j2]) := B_6.out.next hb
  have LC_7 : Hid (Lies w7 shCounter [.slice e1 cu.length f1, .slice e2 cd.length f2] (cu, cd, ())) := LC_6.out.next hb
  have C_7 : Hid (Bx w7 w4.heap.size [.slice e1 cu.length f1, .slice e2 cd.length f2]) := C_6.out.next hb
  have GP_7 : Hid (Own w7 shCounter [.slice p6_1 U.length q6_1, .slice p6_2 V.length q6_2] (U, V, ()) (Btw w5.heap.size w6.heap.size)) := GP_6.out.next hb
  have M_7 : Hid (Bx w7 w6.heap.size [.slice p6_1 U.length q6_1, .slice p6_2 V.length q6_2]) := hw7 ▸ Bx.new w6 [.slice p6_1 U.length q6_1, .slice p6_2 V.length q6_2] _
  rw [← hw7]
  clear hb hw7 cA0 cA1 zA cB0 cB1 zB LA_6 LB_6 A_6 B_6 LC_6 C_6 GP_6 HB6
  refine (specMergeCounter_l [.slice p1 u.length k1, .slice p2 d.length k2] [.slice q1 uu.length j1, .slice q2 dd.length j2] u d uu dd _ U V z HM.out HZA.out HZB.out LA_7.out LB_7.out).mono ?_
  rintro r w8 ⟨cs9, rfl, ho, hb⟩
  obtain ⟨p8_1, q8_1, _, p8_2, q8_2, _, hev, _⟩ := own_Counter ho
  subst hev
  have HB8 : Hid (Below w.heap.size w w8) := below_next HB7.out hb
  have sz8 : w7.heap.size ≤ w8.heap.size := hb.size
  have LA_8 : Hid (Lies w8 shCounter [.slice p1 u.length k1, .slice p2 d.length k2] (u, d, ())) := LA_7.out.next hb
  have LB_8 : Hid (Lies w8 shCounter [.slice q1 uu.length j1, .slice q2 dd.length j2] (uu, dd, ())) := LB_7.out.next hb
  have A_8 : Hid (Bx w8 w1.heap.size [.slice p1 u.length k1, .slice p2 d.length k2]) := A_7.out.next hb
  have B_8 : Hid (Bx w8 (w1.heap.size + 1) [.slice q1 uu.length j1, .slice q2 dd.length j2]) := B_7.out.next hb
  have LC_8 : Hid (Lies w8 shCounter [.slice e1 cu.length f1, .slice e2 cd.length f2] (cu, cd, ())) := LC_7.out.next hb
  have C_8 : Hid (Bx w8 w4.heap.size [.slice e1 cu.length f1, .slice e2 cd.length f2]) := C_7.out.next hb
  have GP_8 : Hid (Own w8 shCounter [.slice p6_1 U.length q6_1, .slice p6_2 V.length q6_2] (U, V, ()) (Btw w5.heap.size w6.heap.size)) := GP_7.out.next hb
  have M_8 : Hid (Bx w8 w6.heap.size [.slice p6_1 U.length q6_1, .slice p6_2 V.length q6_2]) := M_7.out.next hb
  have SP_8 : Hid (Own w8 shCounter [.slice p8_1 U.length q8_1, .slice p8_2 V.length q8_2] (U, V, ()) (Btw w7.heap.size w8.heap.size)) := ho
  clear hb ho LA_7 LB_7 A_7 B_7 LC_7 C_7 GP_7 M_7 HB7
  have cM0 := M_8.out.cell 0 rfl
  have cM1 := M_8.out.cell 1 rfl
  have zM := M_8.out.2
  go_wp2_with fail
  obtain ⟨w9, hw9⟩ : ∃ x, x = w8.alloc (.cells #[.slice p8_1 U.length q8_1, .slice p8_2 V.length q8_2] 25) := ⟨_, rfl⟩
  have hb : Below w8.heap.size w8 w9 := hw9 ▸ Go.Joins.below_alloc1 _ _
  have HB9 : Hid (Below w.heap.size w w9) := below_next HB8.out hb
  have sz9 : w8.heap.size < w9.heap.size := by rw [hw9]; simp
  have LA_9 : Hid (Lies w9 shCounter [.slice p1 u.length k1, .slice p2 d.length k2] (u, d, ())) := LA_8.out.next hb
  have LB_9 : Hid (Lies w9 shCounter [.slice q1 uu.length j1, .slice q2 dd.length j2] (uu, dd, ())) := LB_8.out.next hb
  have A_9 : Hid (Bx w9 w1.heap.size [.slice p1 u.length k1, .slice p2 d.length k2]) := A_8.out.next hb
  have B_9 : Hid (Bx w9 (w1.heap.size + 1) [.slice q1 uu.length j1, .slice q2 dd.length j2]) := B_8.out.next hb
  have LC_9 : Hid (Lies w9 shCounter [.slice e1 cu.length f1, .slice e2 cd.length f2] (cu, cd, ())) := LC_8.out.next hb
  have C_9 : Hid (Bx w9 w4.heap.size [.slice e1 cu.length f1, .slice e2 cd.length f2]) := C_8.out.next hb
  have GP_9 : Hid (Own w9 shCounter [.slice p6_1 U.length q6_1, .slice p6_2 V.length q6_2] (U, V, ()) (Btw w5.heap.size w6.heap.size)) := GP_8.out.next hb
  have M_9 : Hid (Bx w9 w6.heap.size [.slice p6_1 U.length q6_1, .slice p6_2 V.length q6_2]) := M_8.out.next hb
  have SP_9 : Hid (Own w9 shCounter [.slice p8_1 U.length q8_1, .slice p8_2 V.length q8_2] (U, V, ()) (Btw w7.heap.size w8.heap.size)) := SP_8.out.next hb
  have W_9 : Hid (Bx w9 w8.heap.size [.slice p8_1 U.length q8_1, .slice p8_2 V.length q8_2]) := hw9 ▸ Bx.new w8 [.slice p8_1 U.length q8_1, .slice p8_2 V.length q8_2] _
  rw [← hw9]
  clear hb hw9 cM0 cM1 zM LA_8 LB_8 A_8 B_8 LC_8 C_8 GP_8 M_8 SP_8 HB8
  refine (sameC p6_1 q6_1 p6_2 q6_2 p8_1 q8_1 p8_2 q8_2 U V _ (by have := HLM.out; omega) (by have := HLM.out; omega) GP_9.out.lies SP_9.out.lies).mono ?_
  rintro r w10 ⟨rfl, hb⟩
  have HB10 : Hid (Below w.heap.size w w10) := below_next HB9.out hb
  have sz10 : w9.heap.size ≤ w10.heap.size := hb.size
  have LA_10 : Hid (Lies w10 shCounter [.slice p1 u.length k1, .slice p2 d.length k2] (u, d, ())) := LA_9.out.next hb
  have LB_10 : Hid (Lies w10 shCounter [.slice q1 uu.length j1, .slice q2 dd.length j2] (uu, dd, ())) := LB_9.out.next hb
  have A_10 : Hid (Bx w10 w1.heap.size [.slice p1 u.length k1, .slice p2 d.length k2]) := A_9.out.next hb
  have B_10 : Hid (Bx w10 (w1.heap.size + 1) [.slice q1 uu.length j1, .slice q2 dd.length j2]) := B_9.out.next hb
  have LC_10 : Hid (Lies w10 shCounter [.slice e1 cu.length f1, .slice e2 cd.length f2] (cu, cd, ())) := LC_9.out.next hb
  have C_10 : Hid (Bx w10 w4.heap.size [.slice e1 cu.length f1, .slice e2 cd.length f2]) := C_9.out.next hb
  have GP_10 : Hid (Own w10 shCounter [.slice p6_1 U.length q6_1, .slice p6_2 V.length q6_2] (U, V, ()) (Btw w5.heap.size w6.heap.size)) := GP_9.out.next hb
  have M_10 : Hid (Bx w10 w6.heap.size [.slice p6_1 U.length q6_1, .slice p6_2 V.length q6_2]) := M_9.out.next hb
  have SP_10 : Hid (Own w10 shCounter [.slice p8_1 U.length q8_1, .slice p8_2 V.length q8_2] (U, V, ()) (Btw w7.heap.size w8.heap.size)) := SP_9.out.next hb
  have W_10 : Hid (Bx w10 w8.heap.size [.slice p8_1 U.length q8_1, .slice p8_2 V.length q8_2]) := W_9.out.next hb
  clear hb LA_9 LB_9 A_9 B_9 LC_9 C_9 GP_9 M_9 SP_9 W_9 HB9
  clear W_10
  clear SP_10
  have cC0 := C_10.out.cell 0 rfl
  have cC1 := C_10.out.cell 1 rfl
  have zC := C_10.out.2
  go_wp2_with fail
  refine (countBy_l [.slice e1 cu.length f1, .slice e2 cd.length f2] cu cd sa sb _ DU DV y HCB.out HZC.out LC_10.out).mono ?_
  rintro r w11 ⟨cs9, rfl, ho, hb⟩
  obtain ⟨p11_1, q11_1, _, p11_2, q11_2, _, hev, _⟩ := own_Counter ho
  subst hev
  have HB11 : Hid (Below w.heap.size w w11) := below_next HB10.out hb
  have sz11 : w10.heap.size ≤ w11.heap.size := hb.size
  have LA_11 : Hid (Lies w11 shCounter [.slice p1 u.length k1, .slice p2 d.length k2] (u, d, ())) := LA_10.out.next hb
  have LB_11 : Hid (Lies w11 shCounter [.slice q1 uu.length j1, .slice q2 dd.length j2] (uu, dd, ())) := LB_10.out.next hb
  have A_11 : Hid (Bx w11 w1.heap.size [.slice p1 u.length k1, .slice p2 d.length k2]) := A_10.out.next hb
  have B_11 : Hid (Bx w11 (w1.heap.size + 1) [.slice q1 uu.length j1, .slice q2 dd.length j2]) := B_10.out.next hb
  have LC_11 : Hid (Lies w11 shCounter [.slice e1 cu.length f1, .slice e2 cd.length f2] (cu, cd, ())) := LC_10.out.next hb
  have C_11 : Hid (Bx w11 w4.heap.size [.slice e1 cu.length f1, .slice e2 cd.length f2]) := C_10.out.next hb
  have GP_11 : Hid (Own w11 shCounter [.slice p6_1 U.length q6_1, .slice p6_2 V.length q6_2] (U, V, ()) (Btw w5.heap.size w6.heap.size)) := GP_10.out.next hb
  have M_11 : Hid (Bx w11 w6.heap.size [.slice p6_1 U.length q6_1, .slice p6_2 V.length q6_2]) := M_10.out.next hb
  have GD_11 : Hid (Own w11 shCounter [.slice p11_1 DU.length q11_1, .slice p11_2 DV.length q11_2] (DU, DV, ()) (Btw w10.heap.size w11.heap.size)) := ho
  clear hb ho cC0 cC1 zC LA_10 LB_10 A_10 B_10 LC_10 C_10 GP_10 M_10 HB10
  have cC0 := C_11.out.cell 0 rfl
  have cC1 := C_11.out.cell 1 rfl
  have zC := C_11.out.2
  go_wp2_with fail
  obtain ⟨w12, hw12⟩ : ∃ x, x = w11.alloc (.cells #[.slice p11_1 DU.length q11_1, .slice p11_2 DV.length q11_2] 25) := ⟨_, rfl⟩
  have hb : Below w11.heap.size w11 w12 := hw12 ▸ Go.Joins.below_alloc1 _ _
  have HB12 : Hid (Below w.heap.size w w12) := below_next HB11.out hb
  have sz12 : w11.heap.size < w12.heap.size := by rw [hw12]; simp
  have LA_12 : Hid (Lies w12 shCounter [.slice p1 u.length k1, .slice p2 d.length k2] (u, d, ())) := LA_11.out.next hb
  have LB_12 : Hid (Lies w12 shCounter [.slice q1 uu.length j1, .slice q2 dd.length j2] (uu, dd, ())) := LB_11.out.next hb
  have A_12 : Hid (Bx w12 w1.heap.size [.slice p1 u.length k1, .slice p2 d.length k2]) := A_11.out.next hb
  have B_12 : Hid (Bx w12 (w1.heap.size + 1) [.slice q1 uu.length j1, .slice q2 dd.length j2]) := B_11.out.next hb
  have LC_12 : Hid (Lies w12 shCounter [.slice e1 cu.length f1, .slice e2 cd.length f2] (cu, cd, ())) := LC_11.out.next hb
  have C_12 : Hid (Bx w12 w4.heap.size [.slice e1 cu.length f1, .slice e2 cd.length f2]) := C_11.out.next hb
  have GP_12 : Hid (Own w12 shCounter [.slice p6_1 U.length q6_1, .slice p6_2 V.length q6_2] (U, V, ()) (Btw w5.heap.size w6.heap.size)) := GP_11.out.next hb
  have M_12 : Hid (Bx w12 w6.heap.size [.slice p6_1 U.length q6_1, .slice p6_2 V.length q6_2]) := M_11.out.next hb
  have GD_12 : Hid (Own w12 shCounter [.slice p11_1 DU.length q11_1, .slice p11_2 DV.length q11_2] (DU, DV, ()) (Btw w10.heap.size w11.heap.size)) := GD_11.out.next hb
  have D_12 : Hid (Bx w12 w11.heap.size [.slice p11_1 DU.length q11_1, .slice p11_2 DV.length q11_2]) := hw12 ▸ Bx.new w11 [.slice p11_1 DU.length q11_1, .slice p11_2 DV.length q11_2] _
  rw [← hw12]
  clear hb hw12 cC0 cC1 zC LA_11 LB_11 A_11 B_11 LC_11 C_11 GP_11 M_11 GD_11 HB11
  refine (specCountBy_l [.slice e1 cu.length f1, .slice e2 cd.length f2] cu cd sa sb _ DU DV y HCB.out HZC.out LC_12.out).mono ?_
  rintro r w13 ⟨cs9, rfl, ho, hb⟩
  obtain ⟨p13_1, q13_1, _, p13_2, q13_2, _, hev, _⟩ := own_Counter ho
  subst hev
  have HB13 : Hid (Below w.heap.size w w13) := below_next HB12.out hb
  have sz13 : w12.heap.size ≤ w13.heap.size := hb.size
  have LA_13 : Hid (Lies w13 shCounter [.slice p1 u.length k1, .slice p2 d.length k2] (u, d, ())) := LA_12.out.next hb
  have LB_13 : Hid (Lies w13 shCounter [.slice q1 uu.length j1, .slice q2 dd.length j2] (uu, dd, ())) := LB_12.out.next hb
  have A_13 : Hid (Bx w13 w1.heap.size [.slice p1 u.length k1, .slice p2 d.length k2]) := A_12.out.next hb
  have B_13 : Hid (Bx w13 (w1.heap.size + 1) [.slice q1 uu.length j1, .slice q2 dd.length j2]) := B_12.out.next hb
  have LC_13 : Hid (Lies w13 shCounter [.slice e1 cu.length f1, .slice e2 cd.length f2] (cu, cd, ())) := LC_12.out.next hb
  have C_13 : Hid (Bx w13 w4.heap.size [.slice e1 cu.length f1, .slice e2 cd.length f2]) := C_12.out.next hb
  have GP_13 : Hid (Own w13 shCounter [.slice p6_1 U.length q6_1, .slice p6_2 V.length q6_2] (U, V, ()) (Btw w5.heap.size w6.heap.size)) := GP_12.out.next hb
  have M_13 : Hid (Bx w13 w6.heap.size [.slice p6_1 U.length q6_1, .slice p6_2 V.length q6_2]) := M_12.out.next hb
  have GD_13 : Hid (Own w13 shCounter [.slice p11_1 DU.length q11_1, .slice p11_2 DV.length q11_2] (DU, DV, ()) (Btw w10.heap.size w11.heap.size)) := GD_12.out.next hb
  have D_13 : Hid (Bx w13 w11.heap.size [.slice p11_1 DU.length q11_1, .slice p11_2 DV.length q11_2]) := D_12.out.next hb
  have SD_13 : Hid (Own w13 shCounter [.slice p13_1 DU.length q13_1, .slice p13_2 DV.length q13_2] (DU, DV, ()) (Btw w12.heap.size w13.heap.size)) := ho
  clear hb ho LA_12 LB_12 A_12 B_12 LC_12 C_12 GP_12 M_12 GD_12 D_12 HB12
  have cD0 := D_13.out.cell 0 rfl
  have cD1 := D_13.out.cell 1 rfl
  have zD := D_13.out.2
  go_wp2_with fail
  obtain ⟨w14, hw14⟩ : ∃ x, x = w13.alloc (.cells #[.slice p13_1 DU.length q13_1, .slice p13_2 DV.length q13_2] 25) := ⟨_, rfl⟩
  have hb : Below w13.heap.size w13 w14 := hw14 ▸ Go.Joins.below_alloc1 _ _
  have HB14 : Hid (Below w.heap.size w w14) := below_next HB13.out hb
  have sz14 : w13.heap.size < w14.heap.size := by rw [hw14]; simp
  have LA_14 : Hid (Lies w14 shCounter [.slice p1 u.length k1, .slice p2 d.length k2] (u, d, ())) := LA_13.out.next hb
  have LB_14 : Hid (Lies w14 shCounter [.slice q1 uu.length j1, .slice q2 dd.length j2] (uu, dd, ())) := LB_13.out.next hb
  have A_14 : Hid (Bx w14 w1.heap.size [.slice p1 u.length k1, .slice p2 d.length k2]) := A_13.out.next hb
  have B_14 : Hid (Bx w14 (w1.heap.size + 1) [.slice q1 uu.length j1, .slice q2 dd.length j2]) := B_13.out.next hb
  have LC_14 : Hid (Lies w14 shCounter [.slice e1 cu.length f1, .slice e2 cd.length f2] (cu, cd, ())) := LC_13.out.next hb
  have C_14 : Hid (Bx w14 w4.heap.size [.slice e1 cu.length f1, .slice e2 cd.length f2]) := C_13.out.next hb
  have GP_14 : Hid (Own w14 shCounter [.slice p6_1 U.length q6_1, .slice p6_2 V.length q6_2] (U, V, ()) (Btw w5.heap.size w6.heap.size)) := GP_13.out.next hb
  have M_14 : Hid (Bx w14 w6.heap.size [.slice p6_1 U.length q6_1, .slice p6_2 V.length q6_2]) := M_13.out.next hb
  have GD_14 : Hid (Own w14 shCounter [.slice p11_1 DU.length q11_1, .slice p11_2 DV.length q11_2] (DU, DV, ()) (Btw w10.heap.size w11.heap.size)) := GD_13.out.next hb
  have D_14 : Hid (Bx w14 w11.heap.size [.slice p11_1 DU.length q11_1, .slice p11_2 DV.length q11_2]) := D_13.out.next hb
  have SD_14 : Hid (Own w14 shCounter [.slice p13_1 DU.length q13_1, .slice p13_2 DV.length q13_2] (DU, DV, ()) (Btw w12.heap.size w13.heap.size)) := SD_13.out.next hb
  have E_14 : Hid (Bx w14 w13.heap.size [.slice p13_1 DU.length q13_1, .slice p13_2 DV.length q13_2]) := hw14 ▸ Bx.new w13 [.slice p13_1 DU.length q13_1, .slice p13_2 DV.length q13_2] _
  rw [← hw14]
  clear hb hw14 cD0 cD1 zD LA_13 LB_13 A_13 B_13 LC_13 C_13 GP_13 M_13 GD_13 D_13 SD_13 HB13
  refine (sameC p11_1 q11_1 p11_2 q11_2 p13_1 q13_1 p13_2 q13_2 DU DV _ (by have := HLD.out; omega) (by have := HLD.out; omega) GD_14.out.lies SD_14.out.lies).mono ?_
  rintro r w15 ⟨rfl, hb⟩
  have HB15 : Hid (Below w.heap.size w w15) := below_next HB14.out hb
  have sz15 : w14.heap.size ≤ w15.heap.size := hb.size
  have LA_15 : Hid (Lies w15 shCounter [.slice p1 u.length k1, .slice p2 d.length k2] (u, d, ())) := LA_14.out.next hb
  have LB_15 : Hid (Lies w15 shCounter [.slice q1 uu.length j1, .slice q2 dd.length j2] (uu, dd, ())) := LB_14.out.next hb
  have A_15 : Hid (Bx w15 w1.heap.size [.slice p1 u.length k1, .slice p2 d.length k2]) := A_14.out.next hb
  have B_15 : Hid (Bx w15 (w1.heap.size + 1) [.slice q1 uu.length j1, .slice q2 dd.length j2]) := B_14.out.next hb
  have LC_15 : Hid (Lies w15 shCounter [.slice e1 cu.length f1, .slice e2 cd.length f2] (cu, cd, ())) := LC_14.out.next hb
  have C_15 : Hid (Bx w15 w4.heap.size [.slice e1 cu.length f1, .slice e2 cd.length f2]) := C_14.out.next hb
  have GP_15 : Hid (Own w15 shCounter [.slice p6_1 U.length q6_1, .slice p6_2 V.length q6_2] (U, V, ()) (Btw w5.heap.size w6.heap.size)) := GP_14.out.next hb
  have M_15 : Hid (Bx w15 w6.heap.size [.slice p6_1 U.length q6_1, .slice p6_2 V.length q6_2]) := M_14.out.next hb
  have GD_15 : Hid (Own w15 shCounter [.slice p11_1 DU.length q11_1, .slice p11_2 DV.length q11_2] (DU, DV, ()) (Btw w10.heap.size w11.heap.size)) := GD_14.out.next hb
  have D_15 : Hid (Bx w15 w11.heap.size [.slice p11_1 DU.length q11_1, .slice p11_2 DV.length q11_2]) := D_14.out.next hb
  have SD_15 : Hid (Own w15 shCounter [.slice p13_1 DU.length q13_1, .slice p13_2 DV.length q13_2] (DU, DV, ()) (Btw w12.heap.size w13.heap.size)) := SD_14.out.next hb
  have E_15 : Hid (Bx w15 w13.heap.size [.slice p13_1 DU.length q13_1, .slice p13_2 DV.length q13_2]) := E_14.out.next hb
  clear hb LA_14 LB_14 A_14 B_14 LC_14 C_14 GP_14 M_14 GD_14 D_14 SD_14 E_14 HB14
  clear E_15
  clear SD_15
  cases y
  case false =>
    cases z
    case false =>
      have HF := Hid.intro HB15.out
      go_wp2
      go_ret
      exact ⟨rfl, HF.out⟩
    case true =>
      by_cases hgc : goodC cu cd
      case neg =>
        have HGC := Hid.intro (tf_no hgc)
        clear hgc
        have cC0 := C_15.out.cell 0 rfl
        have cC1 := C_15.out.cell 1 rfl
        have zC := C_15.out.2
        go_wp2_with fail
        refine (gc_l [.slice e1 cu.length f1, .slice e2 cd.length f2] cu cd _ false HGC.out HZC.out LC_15.out).mono ?_
        rintro r w16 ⟨rfl, hb⟩
        have HB16 : Hid (Below w.heap.size w w16) := below_next HB15.out hb
        have sz16 : w15.heap.size ≤ w16.heap.size := hb.size
        have LA_16 : Hid (Lies w16 shCounter [.slice p1 u.length k1, .slice p2 d.length k2] (u, d, ())) := LA_15.out.next hb
        have LB_16 : Hid (Lies w16 shCounter [.slice q1 uu.length j1, .slice q2 dd.length j2] (uu, dd, ())) := LB_15.out.next hb
        have A_16 : Hid (Bx w16 w1.heap.size [.slice p1 u.length k1, .slice p2 d.length k2]) := A_15.out.next hb
        have B_16 : Hid (Bx w16 (w1.heap.size + 1) [.slice q1 uu.length j1, .slice q2 dd.length j2]) := B_15.out.next hb
        have LC_16 : Hid (Lies w16 shCounter [.slice e1 cu.length f1, .slice e2 cd.length f2] (cu, cd, ())) := LC_15.out.next hb
        have C_16 : Hid (Bx w16 w4.heap.size [.slice e1 cu.length f1, .slice e2 cd.length f2]) := C_15.out.next hb
        have GP_16 : Hid (Own w16 shCounter [.slice p6_1 U.length q6_1, .slice p6_2 V.length q6_2] (U, V, ()) (Btw w5.heap.size w6.heap.size)) := GP_15.out.next hb
        have M_16 : Hid (Bx w16 w6.heap.size [.slice p6_1 U.length q6_1, .slice p6_2 V.length q6_2]) := M_15.out.next hb
        have GD_16 : Hid (Own w16 shCounter [.slice p11_1 DU.length q11_1, .slice p11_2 DV.length q11_2] (DU, DV, ()) (Btw w10.heap.size w11.heap.size)) := GD_15.out.next hb
        have D_16 : Hid (Bx w16 w11.heap.size [.slice p11_1 DU.length q11_1, .slice p11_2 DV.length q11_2]) := D_15.out.next hb
        clear hb cC0 cC1 zC LA_15 LB_15 A_15 B_15 LC_15 C_15 GP_15 M_15 GD_15 D_15 HB15
        have HF := Hid.intro HB16.out
        go_wp2
        go_ret
        exact ⟨rfl, HF.out⟩
      case pos =>
        have HGC := Hid.intro hgc
        clear hgc
        clear D_15
        clear GD_15
        obtain ⟨LU, LV, QU, QV, hL, hQ, hR⟩ := mc_third HM.out HGC.out
        have HL := Hid.intro hL
        have HQ := Hid.intro hQ
        have HR := Hid.intro hR
        have HN := Hid.intro (mc_comm HM.out)
        have HS := Hid.intro (mc_self HM.out)
        have HZQ := Hid.intro (sz_mcA hQ)
        have HLL := Hid.intro (len_mcA hL)
        clear hL hQ hR
        have cC0 := C_15.out.cell 0 rfl
        have cC1 := C_15.out.cell 1 rfl
        have zC := C_15.out.2
        go_wp2_with fail
        refine (gc_l [.slice e1 cu.length f1, .slice e2 cd.length f2] cu cd _ true (tf_yes HGC.out) HZC.out LC_15.out).mono ?_
        rintro r w16 ⟨rfl, hb⟩
        have HB16 : Hid (Below w.heap.size w w16) := below_next HB15.out hb
        have sz16 : w15.heap.size ≤ w16.heap.size := hb.size
        have LA_16 : Hid (Lies w16 shCounter [.slice p1 u.length k1, .slice p2 d.length k2] (u, d, ())) := LA_15.out.next hb
        have LB_16 : Hid (Lies w16 shCounter [.slice q1 uu.length j1, .slice q2 dd.length j2] (uu, dd, ())) := LB_15.out.next hb
        have A_16 : Hid (Bx w16 w1.heap.size [.slice p1 u.length k1, .slice p2 d.length k2]) := A_15.out.next hb
        have B_16 : Hid (Bx w16 (w1.heap.size + 1) [.slice q1 uu.length j1, .slice q2 dd.length j2]) := B_15.out.next hb
        have LC_16 : Hid (Lies w16 shCounter [.slice e1 cu.length f1, .slice e2 cd.length f2] (cu, cd, ())) := LC_15.out.next hb
        have C_16 : Hid (Bx w16 w4.heap.size [.slice e1 cu.length f1, .slice e2 cd.length f2]) := C_15.out.next hb
        have GP_16 : Hid (Own w16 shCounter [.slice p6_1 U.length q6_1, .slice p6_2 V.length q6_2] (U, V, ()) (Btw w5.heap.size w6.heap.size)) := GP_15.out.next hb
        have M_16 : Hid (Bx w16 w6.heap.size [.slice p6_1 U.length q6_1, .slice p6_2 V.length q6_2]) := M_15.out.next hb
        clear hb cC0 cC1 zC LA_15 LB_15 A_15 B_15 LC_15 C_15 GP_15 M_15 HB15
        have cA0 := A_16.out.cell 0 rfl
        have cA1 := A_16.out.cell 1 rfl
        have zA := A_16.out.2
        have cB0 := B_16.out.cell 0 rfl
        have cB1 := B_16.out.cell 1 rfl
        have zB := B_16.out.2
        go_wp2_with fail
        refine (mergeCounter_l [.slice q1 uu.length j1, .slice q2 dd.length j2] [.slice p1 u.length k1, .slice p2 d.length k2] uu dd u d _ U V true HN.out HZB.out HZA.out LB_16.out LA_16.out).mono ?_
        rintro r w17 ⟨cs9, rfl, ho, hb⟩
        obtain ⟨p17_1, q17_1, _, p17_2, q17_2, _, hev, _⟩ := own_Counter ho
        subst hev
        have HB17 : Hid (Below w.heap.size w w17) := below_next HB16.out hb
        have sz17 : w16.heap.size ≤ w17.heap.size := hb.size
        have LA_17 : Hid (Lies w17 shCounter [.slice p1 u.length k1, .slice p2 d.length k2] (u, d, ())) := LA_16.out.next hb
        have LB_17 : Hid (Lies w17 shCounter [.slice q1 uu.length j1, .slice q2 dd.length j2] (uu, dd, ())) := LB_16.out.next hb
        have A_17 : Hid (Bx w17 w1.heap.size [.slice p1 u.length k1, .slice p2 d.length k2]) := A_16.out.next hb
        have B_17 : Hid (Bx w17 (w1.heap.size + 1) [.slice q1 uu.length j1, .slice q2 dd.length j2]) := B_16.out.next hb
        have LC_17 : Hid (Lies w17 shCounter [.slice e1 cu.length f1, .slice e2 cd.length f2] (cu, cd, ())) := LC_16.out.next hb
        have C_17 : Hid (Bx w17 w4.heap.size [.slice e1 cu.length f1, .slice e2 cd.length f2]) := C_16.out.next hb
        have GP_17 : Hid (Own w17 shCounter [.slice p6_1 U.length q6_1, .slice p6_2 V.length q6_2] (U, V, ()) (Btw w5.heap.size w6.heap.size)) := GP_16.out.next hb
        have M_17 : Hid (Bx w17 w6.heap.size [.slice p6_1 U.length q6_1, .slice p6_2 V.length q6_2]) := M_16.out.next hb
        have NP_17 : Hid (Own w17 shCounter [.slice p17_1 U.length q17_1, .slice p17_2 V.length q17_2] (U, V, ()) (Btw w16.heap.size w17.heap.size)) := ho
        clear hb ho cA0 cA1 zA cB0 cB1 zB LA_16 LB_16 A_16 B_16 LC_16 C_16 GP_16 M_16 HB16
        have cM0 := M_17.out.cell 0 rfl
        have cM1 := M_17.out.cell 1 rfl
        have zM := M_17.out.2
        go_wp2_with fail
        obtain ⟨w18, hw18⟩ : ∃ x, x = w17.alloc (.cells #[.slice p17_1 U.length q17_1, .slice p17_2 V.length q17_2] 25) := ⟨_, rfl⟩
        have hb : Below w17.heap.size w17 w18 := hw18 ▸ Go.Joins.below_alloc1 _ _
        have HB18 : Hid (Below w.heap.size w w18) := below_next HB17.out hb
        have sz18 : w17.heap.size < w18.heap.size := by rw [hw18]; simp
        have LA_18 : Hid (Lies w18 shCounter [.slice p1 u.length k1, .slice p2 d.length k2] (u, d, ())) := LA_17.out.next hb
        have LB_18 : Hid (Lies w18 shCounter [.slice q1 uu.length j1, .slice q2 dd.length j2] (uu, dd, ())) := LB_17.out.next hb
        have A_18 : Hid (Bx w18 w1.heap.size [.slice p1 u.length k1, .slice p2 d.length k2]) := A_17.out.next hb
        have B_18 : Hid (Bx w18 (w1.heap.size + 1) [.slice q1 uu.length j1, .slice q2 dd.length j2]) := B_17.out.next hb
        have LC_18 : Hid (Lies w18 shCounter [.slice e1 cu.length f1, .slice e2 cd.length f2] (cu, cd, ())) := LC_17.out.next hb
        have C_18 : Hid (Bx w18 w4.heap.size [.slice e1 cu.length f1, .slice e2 cd.length f2]) := C_17.out.next hb
        have GP_18 : Hid (Own w18 shCounter [.slice p6_1 U.length q6_1, .slice p6_2 V.length q6_2] (U, V, ()) (Btw w5.heap.size w6.heap.size)) := GP_17.out.next hb
        have M_18 : Hid (Bx w18 w6.heap.size [.slice p6_1 U.length q6_1, .slice p6_2 V.length q6_2]) := M_17.out.next hb
        have NP_18 : Hid (Own w18 shCounter [.slice p17_1 U.length q17_1, .slice p17_2 V.length q17_2] (U, V, ()) (Btw w16.heap.size w17.heap.size)) := NP_17.out.next hb
        have N_18 : Hid (Bx w18 w17.heap.size [.slice p17_1 U.length q17_1, .slice p17_2 V.length q17_2]) := hw18 ▸ Bx.new w17 [.slice p17_1 U.length q17_1, .slice p17_2 V.length q17_2] _
        rw [← hw18]
        clear hb hw18 cM0 cM1 zM LA_17 LB_17 A_17 B_17 LC_17 C_17 GP_17 M_17 NP_17 HB17
        refine (mergeCounter_l [.slice p6_1 U.length q6_1, .slice p6_2 V.length q6_2] [.slice p6_1 U.length q6_1, .slice p6_2 V.length q6_2] U V U V _ U V true HS.out HZM.out HZM.out GP_18.out.lies GP_18.out.lies).mono ?_
        rintro r w19 ⟨cs9, rfl, ho, hb⟩
        obtain ⟨p19_1, q19_1, _, p19_2, q19_2, _, hev, _⟩ := own_Counter ho
        subst hev
        have HB19 : Hid (Below w.heap.size w w19) := below_next HB18.out hb
        have sz19 : w18.heap.size ≤ w19.heap.size := hb.size
        have LA_19 : Hid (Lies w19 shCounter [.slice p1 u.length k1, .slice p2 d.length k2] (u, d, ())) := LA_18.out.next hb
        have LB_19 : Hid (Lies w19 shCounter [.slice q1 uu.length j1, .slice q2 dd.length j2] (uu, dd, ())) := LB_18.out.next hb
        have A_19 : Hid (Bx w19 w1.heap.size [.slice p1 u.length k1, .slice p2 d.length k2]) := A_18.out.next hb
        have B_19 : Hid (Bx w19 (w1.heap.size + 1) [.slice q1 uu.length j1, .slice q2 dd.length j2]) := B_18.out.next hb
        have LC_19 : Hid (Lies w19 shCounter [.slice e1 cu.length f1, .slice e2 cd.length f2] (cu, cd, ())) := LC_18.out.next hb
        have C_19 : Hid (Bx w19 w4.heap.size [.slice e1 cu.length f1, .slice e2 cd.length f2]) := C_18.out.next hb
        have GP_19 : Hid (Own w19 shCounter [.slice p6_1 U.length q6_1, .slice p6_2 V.length q6_2] (U, V, ()) (Btw w5.heap.size w6.heap.size)) := GP_18.out.next hb
        have M_19 : Hid (Bx w19 w6.heap.size [.slice p6_1 U.length q6_1, .slice p6_2 V.length q6_2]) := M_18.out.next hb
        have NP_19 : Hid (Own w19 shCounter [.slice p17_1 U.length q17_1, .slice p17_2 V.length q17_2] (U, V, ()) (Btw w16.heap.size w17.heap.size)) := NP_18.out.next hb
        have N_19 : Hid (Bx w19 w17.heap.size [.slice p17_1 U.length q17_1, .slice p17_2 V.length q17_2]) := N_18.out.next hb
        have TP_19 : Hid (Own w19 shCounter [.slice p19_1 U.length q19_1, .slice p19_2 V.length q19_2] (U, V, ()) (Btw w18.heap.size w19.heap.size)) := ho
        clear hb ho LA_18 LB_18 A_18 B_18 LC_18 C_18 GP_18 M_18 NP_18 N_18 HB18
        have cM0 := M_19.out.cell 0 rfl
        have cM1 := M_19.out.cell 1 rfl
        have zM := M_19.out.2
        have cC0 := C_19.out.cell 0 rfl
        have cC1 := C_19.out.cell 1 rfl
        have zC := C_19.out.2
        go_wp2_with fail
        obtain ⟨w20, hw20⟩ : ∃ x, x = w19.alloc (.cells #[.slice p19_1 U.length q19_1, .slice p19_2 V.length q19_2] 25) := ⟨_, rfl⟩
        have hb : Below w19.heap.size w19 w20 := hw20 ▸ Go.Joins.below_alloc1 _ _
        have HB20 : Hid (Below w.heap.size w w20) := below_next HB19.out hb
        have sz20 : w19.heap.size < w20.heap.size := by rw [hw20]; simp
        have LA_20 : Hid (Lies w20 shCounter [.slice p1 u.length k1, .slice p2 d.length k2] (u, d, ())) := LA_19.out.next hb
        have LB_20 : Hid (Lies w20 shCounter [.slice q1 uu.length j1, .slice q2 dd.length j2] (uu, dd, ())) := LB_19.out.next hb
        have A_20 : Hid (Bx w20 w1.heap.size [.slice p1 u.length k1, .slice p2 d.length k2]) := A_19.out.next hb
        have B_20 : Hid (Bx w20 (w1.heap.size + 1) [.slice q1 uu.length j1, .slice q2 dd.length j2]) := B_19.out.next hb
        have LC_20 : Hid (Lies w20 shCounter [.slice e1 cu.length f1, .slice e2 cd.length f2] (cu, cd, ())) := LC_19.out.next hb
        have C_20 : Hid (Bx w20 w4.heap.size [.slice e1 cu.length f1, .slice e2 cd.length f2]) := C_19.out.next hb
        have GP_20 : Hid (Own w20 shCounter [.slice p6_1 U.length q6_1, .slice p6_2 V.length q6_2] (U, V, ()) (Btw w5.heap.size w6.heap.size)) := GP_19.out.next hb
        have M_20 : Hid (Bx w20 w6.heap.size [.slice p6_1 U.length q6_1, .slice p6_2 V.length q6_2]) := M_19.out.next hb
        have NP_20 : Hid (Own w20 shCounter [.slice p17_1 U.length q17_1, .slice p17_2 V.length q17_2] (U, V, ()) (Btw w16.heap.size w17.heap.size)) := NP_19.out.next hb
        have N_20 : Hid (Bx w20 w17.heap.size [.slice p17_1 U.length q17_1, .slice p17_2 V.length q17_2]) := N_19.out.next hb
        have TP_20 : Hid (Own w20 shCounter [.slice p19_1 U.length q19_1, .slice p19_2 V.length q19_2] (U, V, ()) (Btw w18.heap.size w19.heap.size)) := TP_19.out.next hb
        have S_20 : Hid (Bx w20 w19.heap.size [.slice p19_1 U.length q19_1, .slice p19_2 V.length q19_2]) := hw20 ▸ Bx.new w19 [.slice p19_1 U.length q19_1, .slice p19_2 V.length q19_2] _
        rw [← hw20]
        clear hb hw20 cM0 cM1 zM cC0 cC1 zC LA_19 LB_19 A_19 B_19 LC_19 C_19 GP_19 M_19 NP_19 N_19 TP_19 HB19
        refine (mergeCounter_l [.slice p6_1 U.length q6_1, .slice p6_2 V.length q6_2] [.slice e1 cu.length f1, .slice e2 cd.length f2] U V cu cd _ LU LV true HL.out HZM.out HZC.out GP_20.out.lies LC_20.out).mono ?_
        rintro r w21 ⟨cs9, rfl, ho, hb⟩
        obtain ⟨p21_1, q21_1, _, p21_2, q21_2, _, hev, _⟩ := own_Counter ho
        subst hev
        have HB21 : Hid (Below w.heap.size w w21) := below_next HB20.out hb
        have sz21 : w20.heap.size ≤ w21.heap.size := hb.size
        have LA_21 : Hid (Lies w21 shCounter [.slice p1 u.length k1, .slice p2 d.length k2] (u, d, ())) := LA_20.out.next hb
        have LB_21 : Hid (Lies w21 shCounter [.slice q1 uu.length j1, .slice q2 dd.length j2] (uu, dd, ())) := LB_20.out.next hb
        have A_21 : Hid (Bx w21 w1.heap.size [.slice p1 u.length k1, .slice p2 d.length k2]) := A_20.out.next hb
        have B_21 : Hid (Bx w21 (w1.heap.size + 1) [.slice q1 uu.length j1, .slice q2 dd.length j2]) := B_20.out.next hb
        have LC_21 : Hid (Lies w21 shCounter [.slice e1 cu.length f1, .slice e2 cd.length f2] (cu, cd, ())) := LC_20.out.next hb
        have C_21 : Hid (Bx w21 w4.heap.size [.slice e1 cu.length f1, .slice e2 cd.length f2]) := C_20.out.next hb
        have GP_21 : Hid (Own w21 shCounter [.slice p6_1 U.length q6_1, .slice p6_2 V.length q6_2] (U, V, ()) (Btw w5.heap.size w6.heap.size)) := GP_20.out.next hb
        have M_21 : Hid (Bx w21 w6.heap.size [.slice p6_1 U.length q6_1, .slice p6_2 V.length q6_2]) := M_20.out.next hb
        have NP_21 : Hid (Own w21 shCounter [.slice p17_1 U.length q17_1, .slice p17_2 V.length q17_2] (U, V, ()) (Btw w16.heap.size w17.heap.size)) := NP_20.out.next hb
        have N_21 : Hid (Bx w21 w17.heap.size [.slice p17_1 U.length q17_1, .slice p17_2 V.length q17_2]) := N_20.out.next hb
        have TP_21 : Hid (Own w21 shCounter [.slice p19_1 U.length q19_1, .slice p19_2 V.length q19_2] (U, V, ()) (Btw w18.heap.size w19.heap.size)) := TP_20.out.next hb
        have S_21 : Hid (Bx w21 w19.heap.size [.slice p19_1 U.length q19_1, .slice p19_2 V.length q19_2]) := S_20.out.next hb
        have LP_21 : Hid (Own w21 shCounter [.slice p21_1 LU.length q21_1, .slice p21_2 LV.length q21_2] (LU, LV, ()) (Btw w20.heap.size w21.heap.size)) := ho
        clear hb ho LA_20 LB_20 A_20 B_20 LC_20 C_20 GP_20 M_20 NP_20 N_20 TP_20 S_20 HB20
        have cB0 := B_21.out.cell 0 rfl
        have cB1 := B_21.out.cell 1 rfl
        have zB := B_21.out.2
        have cC0 := C_21.out.cell 0 rfl
        have cC1 := C_21.out.cell 1 rfl
        have zC := C_21.out.2
        go_wp2_with fail
        obtain ⟨w22, hw22⟩ : ∃ x, x = w21.alloc (.cells #[.slice p21_1 LU.length q21_1, .slice p21_2 LV.length q21_2] 25) := ⟨_, rfl⟩
        have hb : Below w21.heap.size w21 w22 := hw22 ▸ Go.Joins.below_alloc1 _ _
        have HB22 : Hid (Below w.heap.size w w22) := below_next HB21.out hb
        have sz22 : w21.heap.size < w22.heap.size := by rw [hw22]; simp
        have LA_22 : Hid (Lies w22 shCounter [.slice p1 u.length k1, .slice p2 d.length k2] (u, d, ())) := LA_21.out.next hb
        have LB_22 : Hid (Lies w22 shCounter [.slice q1 uu.length j1, .slice q2 dd.length j2] (uu, dd, ())) := LB_21.out.next hb
        have A_22 : Hid (Bx w22 w1.heap.size [.slice p1 u.length k1, .slice p2 d.length k2]) := A_21.out.next hb
        have B_22 : Hid (Bx w22 (w1.heap.size + 1) [.slice q1 uu.length j1, .slice q2 dd.length j2]) := B_21.out.next hb
        have LC_22 : Hid (Lies w22 shCounter [.slice e1 cu.length f1, .slice e2 cd.length f2] (cu, cd, ())) := LC_21.out.next hb
        have C_22 : Hid (Bx w22 w4.heap.size [.slice e1 cu.length f1, .slice e2 cd.length f2]) := C_21.out.next hb
        have GP_22 : Hid (Own w22 shCounter [.slice p6_1 U.length q6_1, .slice p6_2 V.length q6_2] (U, V, ()) (Btw w5.heap.size w6.heap.size)) := GP_21.out.next hb
        have M_22 : Hid (Bx w22 w6.heap.size [.slice p6_1 U.length q6_1, .slice p6_2 V.length q6_2]) := M_21.out.next hb
        have NP_22 : Hid (Own w22 shCounter [.slice p17_1 U.length q17_1, .slice p17_2 V.length q17_2] (U, V, ()) (Btw w16.heap.size w17.heap.size)) := NP_21.out.next hb
        have N_22 : Hid (Bx w22 w17.heap.size [.slice p17_1 U.length q17_1, .slice p17_2 V.length q17_2]) := N_21.out.next hb
        have TP_22 : Hid (Own w22 shCounter [.slice p19_1 U.length q19_1, .slice p19_2 V.length q19_2] (U, V, ()) (Btw w18.heap.size w19.heap.size)) := TP_21.out.next hb
        have S_22 : Hid (Bx w22 w19.heap.size [.slice p19_1 U.length q19_1, .slice p19_2 V.length q19_2]) := S_21.out.next hb
        have LP_22 : Hid (Own w22 shCounter [.slice p21_1 LU.length q21_1, .slice p21_2 LV.length q21_2] (LU, LV, ()) (Btw w20.heap.size w21.heap.size)) := LP_21.out.next hb
        have L_22 : Hid (Bx w22 w21.heap.size [.slice p21_1 LU.length q21_1, .slice p21_2 LV.length q21_2]) := hw22 ▸ Bx.new w21 [.slice p21_1 LU.length q21_1, .slice p21_2 LV.length q21_2] _
        rw [← hw22]
        clear hb hw22 cB0 cB1 zB cC0 cC1 zC LA_21 LB_21 A_21 B_21 LC_21 C_21 GP_21 M_21 NP_21 N_21 TP_21 S_21 LP_21 HB21
        refine (mergeCounter_l [.slice q1 uu.length j1, .slice q2 dd.length j2] [.slice e1 cu.length f1, .slice e2 cd.length f2] uu dd cu cd _ QU QV true HQ.out HZB.out HZC.out LB_22.out LC_22.out).mono ?_
        rintro r w23 ⟨cs9, rfl, ho, hb⟩
        obtain ⟨p23_1, q23_1, _, p23_2, q23_2, _, hev, _⟩ := own_Counter ho
        subst hev
        have HB23 : Hid (Below w.heap.size w w23) := below_next HB22.out hb
        have sz23 : w22.heap.size ≤ w23.heap.size := hb.size
        have LA_23 : Hid (Lies w23 shCounter [.slice p1 u.length k1, .slice p2 d.length k2] (u, d, ())) := LA_22.out.next hb
        have LB_23 : Hid (Lies w23 shCounter [.slice q1 uu.length j1, .slice q2 dd.length j2] (uu, dd, ())) := LB_22.out.next hb
        have A_23 : Hid (Bx w23 w1.heap.size [.slice p1 u.length k1, .slice p2 d.length k2]) := A_22.out.next hb
        have B_23 : Hid (Bx w23 (w1.heap.size + 1) [.slice q1 uu.length j1, .slice q2 dd.length j2]) := B_22.out.next hb
        have LC_23 : Hid (Lies w23 shCounter [.slice e1 cu.length f1, .slice e2 cd.length f2] (cu, cd, ())) := LC_22.out.next hb
        have C_23 : Hid (Bx w23 w4.heap.size [.slice e1 cu.length f1, .slice e2 cd.length f2]) := C_22.out.next hb
        have GP_23 : Hid (Own w23 shCounter [.slice p6_1 U.length q6_1, .slice p6_2 V.length q6_2] (U, V, ()) (Btw w5.heap.size w6.heap.size)) := GP_22.out.next hb
        have M_23 : Hid (Bx w23 w6.heap.size [.slice p6_1 U.length q6_1, .slice p6_2 V.length q6_2]) := M_22.out.next hb
        have NP_23 : Hid (Own w23 shCounter [.slice p17_1 U.length q17_1, .slice p17_2 V.length q17_2] (U, V, ()) (Btw w16.heap.size w17.heap.size)) := NP_22.out.next hb
        have N_23 : Hid (Bx w23 w17.heap.size [.slice p17_1 U.length q17_1, .slice p17_2 V.length q17_2]) := N_22.out.next hb
        have TP_23 : Hid (Own w23 shCounter [.slice p19_1 U.length q19_1, .slice p19_2 V.length q19_2] (U, V, ()) (Btw w18.heap.size w19.heap.size)) := TP_22.out.next hb
        have S_23 : Hid (Bx w23 w19.heap.size [.slice p19_1 U.length q19_1, .slice p19_2 V.length q19_2]) := S_22.out.next hb
        have LP_23 : Hid (Own w23 shCounter [.slice p21_1 LU.length q21_1, .slice p21_2 LV.length q21_2] (LU, LV, ()) (Btw w20.heap.size w21.heap.size)) := LP_22.out.next hb
        have L_23 : Hid (Bx w23 w21.heap.size [.slice p21_1 LU.length q21_1, .slice p21_2 LV.length q21_2]) := L_22.out.next hb
        have QP_23 : Hid (Own w23 shCounter [.slice p23_1 QU.length q23_1, .slice p23_2 QV.length q23_2] (QU, QV, ()) (Btw w22.heap.size w23.heap.size)) := ho
        clear hb ho LA_22 LB_22 A_22 B_22 LC_22 C_22 GP_22 M_22 NP_22 N_22 TP_22 S_22 LP_22 L_22 HB22
        have cA0 := A_23.out.cell 0 rfl
        have cA1 := A_23.out.cell 1 rfl
        have zA := A_23.out.2
        go_wp2_with fail
        obtain ⟨w24, hw24⟩ : ∃ x, x = w23.alloc (.cells #[.slice p23_1 QU.length q23_1, .slice p23_2 QV.length q23_2] 25) := ⟨_, rfl⟩
        have hb : Below w23.heap.size w23 w24 := hw24 ▸ Go.Joins.below_alloc1 _ _
        have HB24 : Hid (Below w.heap.size w w24) := below_next HB23.out hb
        have sz24 : w23.heap.size < w24.heap.size := by rw [hw24]; simp
        have LA_24 : Hid (Lies w24 shCounter [.slice p1 u.length k1, .slice p2 d.length k2] (u, d, ())) := LA_23.out.next hb
        have LB_24 : Hid (Lies w24 shCounter [.slice q1 uu.length j1, .slice q2 dd.length j2] (uu, dd, ())) := LB_23.out.next hb
        have A_24 : Hid (Bx w24 w1.heap.size [.slice p1 u.length k1, .slice p2 d.length k2]) := A_23.out.next hb
        have B_24 : Hid (Bx w24 (w1.heap.size + 1) [.slice q1 uu.length j1, .slice q2 dd.length j2]) := B_23.out.next hb
        have LC_24 : Hid (Lies w24 shCounter [.slice e1 cu.length f1, .slice e2 cd.length f2] (cu, cd, ())) := LC_23.out.next hb
        have C_24 : Hid (Bx w24 w4.heap.size [.slice e1 cu.length f1, .slice e2 cd.length f2]) := C_23.out.next hb
        have GP_24 : Hid (Own w24 shCounter [.slice p6_1 U.length q6_1, .slice p6_2 V.length q6_2] (U, V, ()) (Btw w5.heap.size w6.heap.size)) := GP_23.out.next hb
        have M_24 : Hid (Bx w24 w6.heap.size [.slice p6_1 U.length q6_1, .slice p6_2 V.length q6_2]) := M_23.out.next hb
        have NP_24 : Hid (Own w24 shCounter [.slice p17_1 U.length q17_1, .slice p17_2 V.length q17_2] (U, V, ()) (Btw w16.heap.size w17.heap.size)) := NP_23.out.next hb
        have N_24 : Hid (Bx w24 w17.heap.size [.slice p17_1 U.length q17_1, .slice p17_2 V.length q17_2]) := N_23.out.next hb
        have TP_24 : Hid (Own w24 shCounter [.slice p19_1 U.length q19_1, .slice p19_2 V.length q19_2] (U, V, ()) (Btw w18.heap.size w19.heap.size)) := TP_23.out.next hb
        have S_24 : Hid (Bx w24 w19.heap.size [.slice p19_1 U.length q19_1, .slice p19_2 V.length q19_2]) := S_23.out.next hb
        have LP_24 : Hid (Own w24 shCounter [.slice p21_1 LU.length q21_1, .slice p21_2 LV.length q21_2] (LU, LV, ()) (Btw w20.heap.size w21.heap.size)) := LP_23.out.next hb
        have L_24 : Hid (Bx w24 w21.heap.size [.slice p21_1 LU.length q21_1, .slice p21_2 LV.length q21_2]) := L_23.out.next hb
        have QP_24 : Hid (Own w24 shCounter [.slice p23_1 QU.length q23_1, .slice p23_2 QV.length q23_2] (QU, QV, ()) (Btw w22.heap.size w23.heap.size)) := QP_23.out.next hb
        have Q_24 : Hid (Bx w24 w23.heap.size [.slice p23_1 QU.length q23_1, .slice p23_2 QV.length q23_2]) := hw24 ▸ Bx.new w23 [.slice p23_1 QU.length q23_1, .slice p23_2 QV.length q23_2] _
        rw [← hw24]
        clear hb hw24 cA0 cA1 zA LA_23 LB_23 A_23 B_23 LC_23 C_23 GP_23 M_23 NP_23 N_23 TP_23 S_23 LP_23 L_23 QP_23 HB23
        refine (mergeCounter_l [.slice p1 u.length k1, .slice p2 d.length k2] [.slice p23_1 QU.length q23_1, .slice p23_2 QV.length q23_2] u d QU QV _ LU LV true HR.out HZA.out HZQ.out LA_24.out QP_24.out.lies).mono ?_
        rintro r w25 ⟨cs9, rfl, ho, hb⟩
        obtain ⟨p25_1, q25_1, _, p25_2, q25_2, _, hev, _⟩ := own_Counter ho
        subst hev
        have HB25 : Hid (Below w.heap.size w w25) := below_next HB24.out hb
        have sz25 : w24.heap.size ≤ w25.heap.size := hb.size
        have LA_25 : Hid (Lies w25 shCounter [.slice p1 u.length k1, .slice p2 d.length k2] (u, d, ())) := LA_24.out.next hb
        have LB_25 : Hid (Lies w25 shCounter [.slice q1 uu.length j1, .slice q2 dd.length j2] (uu, dd, ())) := LB_24.out.next hb
        have A_25 : Hid (Bx w25 w1.heap.size [.slice p1 u.length k1, .slice p2 d.length k2]) := A_24.out.next hb
        have B_25 : Hid (Bx w25 (w1.heap.size + 1) [.slice q1 uu.length j1, .slice q2 dd.length j2]) := B_24.out.next hb
        have LC_25 : Hid (Lies w25 shCounter [.slice e1 cu.length f1, .slice e2 cd.length f2] (cu, cd, ())) := LC_24.out.next hb
        have C_25 : Hid (Bx w25 w4.heap.size [.slice e1 cu.length f1, .slice e2 cd.length f2]) := C_24.out.next hb
        have GP_25 : Hid (Own w25 shCounter [.slice p6_1 U.length q6_1, .slice p6_2 V.length q6_2] (U, V, ()) (Btw w5.heap.size w6.heap.size)) := GP_24.out.next hb
        have M_25 : Hid (Bx w25 w6.heap.size [.slice p6_1 U.length q6_1, .slice p6_2 V.length q6_2]) := M_24.out.next hb
        have NP_25 : Hid (Own w25 shCounter [.slice p17_1 U.length q17_1, .slice p17_2 V.length q17_2] (U, V, ()) (Btw w16.heap.size w17.heap.size)) := NP_24.out.next hb
        have N_25 : Hid (Bx w25 w17.heap.size [.slice p17_1 U.length q17_1, .slice p17_2 V.length q17_2]) := N_24.out.next hb
        have TP_25 : Hid (Own w25 shCounter [.slice p19_1 U.length q19_1, .slice p19_2 V.length q19_2] (U, V, ()) (Btw w18.heap.size w19.heap.size)) := TP_24.out.next hb
        have S_25 : Hid (Bx w25 w19.heap.size [.slice p19_1 U.length q19_1, .slice p19_2 V.length q19_2]) := S_24.out.next hb
        have LP_25 : Hid (Own w25 shCounter [.slice p21_1 LU.length q21_1, .slice p21_2 LV.length q21_2] (LU, LV, ()) (Btw w20.heap.size w21.heap.size)) := LP_24.out.next hb
        have L_25 : Hid (Bx w25 w21.heap.size [.slice p21_1 LU.length q21_1, .slice p21_2 LV.length q21_2]) := L_24.out.next hb
        have QP_25 : Hid (Own w25 shCounter [.slice p23_1 QU.length q23_1, .slice p23_2 QV.length q23_2] (QU, QV, ()) (Btw w22.heap.size w23.heap.size)) := QP_24.out.next hb
        have Q_25 : Hid (Bx w25 w23.heap.size [.slice p23_1 QU.length q23_1, .slice p23_2 QV.length q23_2]) := Q_24.out.next hb
        have RP_25 : Hid (Own w25 shCounter [.slice p25_1 LU.length q25_1, .slice p25_2 LV.length q25_2] (LU, LV, ()) (Btw w24.heap.size w25.heap.size)) := ho
        clear hb ho LA_24 LB_24 A_24 B_24 LC_24 C_24 GP_24 M_24 NP_24 N_24 TP_24 S_24 LP_24 L_24 QP_24 Q_24 HB24
        clear A_25
        clear B_25
        clear C_25
        clear Q_25
        clear QP_25
        have cN0 := N_25.out.cell 0 rfl
        have cN1 := N_25.out.cell 1 rfl
        have zN := N_25.out.2
        have cM0 := M_25.out.cell 0 rfl
        have cM1 := M_25.out.cell 1 rfl
        have zM := M_25.out.2
        go_wp2_with fail
        obtain ⟨w26, hw26⟩ : ∃ x, x = w25.alloc (.cells #[.slice p25_1 LU.length q25_1, .slice p25_2 LV.length q25_2] 25) := ⟨_, rfl⟩
        have hb : Below w25.heap.size w25 w26 := hw26 ▸ Go.Joins.below_alloc1 _ _
        have HB26 : Hid (Below w.heap.size w w26) := below_next HB25.out hb
        have sz26 : w25.heap.size < w26.heap.size := by rw [hw26]; simp
        have LA_26 : Hid (Lies w26 shCounter [.slice p1 u.length k1, .slice p2 d.length k2] (u, d, ())) := LA_25.out.next hb
        have LB_26 : Hid (Lies w26 shCounter [.slice q1 uu.length j1, .slice q2 dd.length j2] (uu, dd, ())) := LB_25.out.next hb
        have LC_26 : Hid (Lies w26 shCounter [.slice e1 cu.length f1, .slice e2 cd.length f2] (cu, cd, ())) := LC_25.out.next hb
        have GP_26 : Hid (Own w26 shCounter [.slice p6_1 U.length q6_1, .slice p6_2 V.length q6_2] (U, V, ()) (Btw w5.heap.size w6.heap.size)) := GP_25.out.next hb
        have M_26 : Hid (Bx w26 w6.heap.size [.slice p6_1 U.length q6_1, .slice p6_2 V.length q6_2]) := M_25.out.next hb
        have NP_26 : Hid (Own w26 shCounter [.slice p17_1 U.length q17_1, .slice p17_2 V.length q17_2] (U, V, ()) (Btw w16.heap.size w17.heap.size)) := NP_25.out.next hb
        have N_26 : Hid (Bx w26 w17.heap.size [.slice p17_1 U.length q17_1, .slice p17_2 V.length q17_2]) := N_25.out.next hb
        have TP_26 : Hid (Own w26 shCounter [.slice p19_1 U.length q19_1, .slice p19_2 V.length q19_2] (U, V, ()) (Btw w18.heap.size w19.heap.size)) := TP_25.out.next hb
        have S_26 : Hid (Bx w26 w19.heap.size [.slice p19_1 U.length q19_1, .slice p19_2 V.length q19_2]) := S_25.out.next hb
        have LP_26 : Hid (Own w26 shCounter [.slice p21_1 LU.length q21_1, .slice p21_2 LV.length q21_2] (LU, LV, ()) (Btw w20.heap.size w21.heap.size)) := LP_25.out.next hb
        have L_26 : Hid (Bx w26 w21.heap.size [.slice p21_1 LU.length q21_1, .slice p21_2 LV.length q21_2]) := L_25.out.next hb
        have RP_26 : Hid (Own w26 shCounter [.slice p25_1 LU.length q25_1, .slice p25_2 LV.length q25_2] (LU, LV, ()) (Btw w24.heap.size w25.heap.size)) := RP_25.out.next hb
        have R_26 : Hid (Bx w26 w25.heap.size [.slice p25_1 LU.length q25_1, .slice p25_2 LV.length q25_2]) := hw26 ▸ Bx.new w25 [.slice p25_1 LU.length q25_1, .slice p25_2 LV.length q25_2] _
        rw [← hw26]
        clear hb hw26 cN0 cN1 zN cM0 cM1 zM LA_25 LB_25 LC_25 GP_25 M_25 NP_25 N_25 TP_25 S_25 LP_25 L_25 RP_25 HB25
        refine (sameC p17_1 q17_1 p17_2 q17_2 p6_1 q6_1 p6_2 q6_2 U V _ (by have := HLM.out; omega) (by have := HLM.out; omega) NP_26.out.lies GP_26.out.lies).mono ?_
        rintro r w27 ⟨rfl, hb⟩
        have HB27 : Hid (Below w.heap.size w w27) := below_next HB26.out hb
        have sz27 : w26.heap.size ≤ w27.heap.size := hb.size
        have LA_27 : Hid (Lies w27 shCounter [.slice p1 u.length k1, .slice p2 d.length k2] (u, d, ())) := LA_26.out.next hb
        have LB_27 : Hid (Lies w27 shCounter [.slice q1 uu.length j1, .slice q2 dd.length j2] (uu, dd, ())) := LB_26.out.next hb
        have LC_27 : Hid (Lies w27 shCounter [.slice e1 cu.length f1, .slice e2 cd.length f2] (cu, cd, ())) := LC_26.out.next hb
        have GP_27 : Hid (Own w27 shCounter [.slice p6_1 U.length q6_1, .slice p6_2 V.length q6_2] (U, V, ()) (Btw w5.heap.size w6.heap.size)) := GP_26.out.next hb
        have M_27 : Hid (Bx w27 w6.heap.size [.slice p6_1 U.length q6_1, .slice p6_2 V.length q6_2]) := M_26.out.next hb
        have NP_27 : Hid (Own w27 shCounter [.slice p17_1 U.length q17_1, .slice p17_2 V.length q17_2] (U, V, ()) (Btw w16.heap.size w17.heap.size)) := NP_26.out.next hb
        have N_27 : Hid (Bx w27 w17.heap.size [.slice p17_1 U.length q17_1, .slice p17_2 V.length q17_2]) := N_26.out.next hb
        have TP_27 : Hid (Own w27 shCounter [.slice p19_1 U.length q19_1, .slice p19_2 V.length q19_2] (U, V, ()) (Btw w18.heap.size w19.heap.size)) := TP_26.out.next hb
        have S_27 : Hid (Bx w27 w19.heap.size [.slice p19_1 U.length q19_1, .slice p19_2 V.length q19_2]) := S_26.out.next hb
        have LP_27 : Hid (Own w27 shCounter [.slice p21_1 LU.length q21_1, .slice p21_2 LV.length q21_2] (LU, LV, ()) (Btw w20.heap.size w21.heap.size)) := LP_26.out.next hb
        have L_27 : Hid (Bx w27 w21.heap.size [.slice p21_1 LU.length q21_1, .slice p21_2 LV.length q21_2]) := L_26.out.next hb
        have RP_27 : Hid (Own w27 shCounter [.slice p25_1 LU.length q25_1, .slice p25_2 LV.length q25_2] (LU, LV, ()) (Btw w24.heap.size w25.heap.size)) := RP_26.out.next hb
        have R_27 : Hid (Bx w27 w25.heap.size [.slice p25_1 LU.length q25_1, .slice p25_2 LV.length q25_2]) := R_26.out.next hb
        clear hb LA_26 LB_26 LC_26 GP_26 M_26 NP_26 N_26 TP_26 S_26 LP_26 L_26 RP_26 R_26 HB26
        have cS0 := S_27.out.cell 0 rfl
        have cS1 := S_27.out.cell 1 rfl
        have zS := S_27.out.2
        have cM0 := M_27.out.cell 0 rfl
        have cM1 := M_27.out.cell 1 rfl
        have zM := M_27.out.2
        go_wp2_with fail
        refine (sameC p19_1 q19_1 p19_2 q19_2 p6_1 q6_1 p6_2 q6_2 U V _ (by have := HLM.out; omega) (by have := HLM.out; omega) TP_27.out.lies GP_27.out.lies).mono ?_
        rintro r w28 ⟨rfl, hb⟩
        have HB28 : Hid (Below w.heap.size w w28) := below_next HB27.out hb
        have sz28 : w27.heap.size ≤ w28.heap.size := hb.size
        have LA_28 : Hid (Lies w28 shCounter [.slice p1 u.length k1, .slice p2 d.length k2] (u, d, ())) := LA_27.out.next hb
        have LB_28 : Hid (Lies w28 shCounter [.slice q1 uu.length j1, .slice q2 dd.length j2] (uu, dd, ())) := LB_27.out.next hb
        have LC_28 : Hid (Lies w28 shCounter [.slice e1 cu.length f1, .slice e2 cd.length f2] (cu, cd, ())) := LC_27.out.next hb
        have GP_28 : Hid (Own w28 shCounter [.slice p6_1 U.length q6_1, .slice p6_2 V.length q6_2] (U, V, ()) (Btw w5.heap.size w6.heap.size)) := GP_27.out.next hb
        have M_28 : Hid (Bx w28 w6.heap.size [.slice p6_1 U.length q6_1, .slice p6_2 V.length q6_2]) := M_27.out.next hb
        have NP_28 : Hid (Own w28 shCounter [.slice p17_1 U.length q17_1, .slice p17_2 V.length q17_2] (U, V, ()) (Btw w16.heap.size w17.heap.size)) := NP_27.out.next hb
        have N_28 : Hid (Bx w28 w17.heap.size [.slice p17_1 U.length q17_1, .slice p17_2 V.length q17_2]) := N_27.out.next hb
        have TP_28 : Hid (Own w28 shCounter [.slice p19_1 U.length q19_1, .slice p19_2 V.length q19_2] (U, V, ()) (Btw w18.heap.size w19.heap.size)) := TP_27.out.next hb
        have S_28 : Hid (Bx w28 w19.heap.size [.slice p19_1 U.length q19_1, .slice p19_2 V.length q19_2]) := S_27.out.next hb
        have LP_28 : Hid (Own w28 shCounter [.slice p21_1 LU.length q21_1, .slice p21_2 LV.length q21_2] (LU, LV, ()) (Btw w20.heap.size w21.heap.size)) := LP_27.out.next hb
        have L_28 : Hid (Bx w28 w21.heap.size [.slice p21_1 LU.length q21_1, .slice p21_2 LV.length q21_2]) := L_27.out.next hb
        have RP_28 : Hid (Own w28 shCounter [.slice p25_1 LU.length q25_1, .slice p25_2 LV.length q25_2] (LU, LV, ()) (Btw w24.heap.size w25.heap.size)) := RP_27.out.next hb
        have R_28 : Hid (Bx w28 w25.heap.size [.slice p25_1 LU.length q25_1, .slice p25_2 LV.length q25_2]) := R_27.out.next hb
        clear hb cS0 cS1 zS cM0 cM1 zM LA_27 LB_27 LC_27 GP_27 M_27 NP_27 N_27 TP_27 S_27 LP_27 L_27 RP_27 R_27 HB27
        have cL0 := L_28.out.cell 0 rfl
        have cL1 := L_28.out.cell 1 rfl
        have zL := L_28.out.2
        have cR0 := R_28.out.cell 0 rfl
        have cR1 := R_28.out.cell 1 rfl
        have zR := R_28.out.2
        go_wp2_with fail
        refine (sameC p21_1 q21_1 p21_2 q21_2 p25_1 q25_1 p25_2 q25_2 LU LV _ (by have := HLL.out; omega) (by have := HLL.out; omega) LP_28.out.lies RP_28.out.lies).mono ?_
        rintro r w29 ⟨rfl, hb⟩
        have HB29 : Hid (Below w.heap.size w w29) := below_next HB28.out hb
        have sz29 : w28.heap.size ≤ w29.heap.size := hb.size
        have LA_29 : Hid (Lies w29 shCounter [.slice p1 u.length k1, .slice p2 d.length k2] (u, d, ())) := LA_28.out.next hb
        have LB_29 : Hid (Lies w29 shCounter [.slice q1 uu.length j1, .slice q2 dd.length j2] (uu, dd, ())) := LB_28.out.next hb
        have LC_29 : Hid (Lies w29 shCounter [.slice e1 cu.length f1, .slice e2 cd.length f2] (cu, cd, ())) := LC_28.out.next hb
        have GP_29 : Hid (Own w29 shCounter [.slice p6_1 U.length q6_1, .slice p6_2 V.length q6_2] (U, V, ()) (Btw w5.heap.size w6.heap.size)) := GP_28.out.next hb
        have M_29 : Hid (Bx w29 w6.heap.size [.slice p6_1 U.length q6_1, .slice p6_2 V.length q6_2]) := M_28.out.next hb
        have NP_29 : Hid (Own w29 shCounter [.slice p17_1 U.length q17_1, .slice p17_2 V.length q17_2] (U, V, ()) (Btw w16.heap.size w17.heap.size)) := NP_28.out.next hb
        have N_29 : Hid (Bx w29 w17.heap.size [.slice p17_1 U.length q17_1, .slice p17_2 V.length q17_2]) := N_28.out.next hb
        have TP_29 : Hid (Own w29 shCounter [.slice p19_1 U.length q19_1, .slice p19_2 V.length q19_2] (U, V, ()) (Btw w18.heap.size w19.heap.size)) := TP_28.out.next hb
        have S_29 : Hid (Bx w29 w19.heap.size [.slice p19_1 U.length q19_1, .slice p19_2 V.length q19_2]) := S_28.out.next hb
        have LP_29 : Hid (Own w29 shCounter [.slice p21_1 LU.length q21_1, .slice p21_2 LV.length q21_2] (LU, LV, ()) (Btw w20.heap.size w21.heap.size)) := LP_28.out.next hb
        have L_29 : Hid (Bx w29 w21.heap.size [.slice p21_1 LU.length q21_1, .slice p21_2 LV.length q21_2]) := L_28.out.next hb
        have RP_29 : Hid (Own w29 shCounter [.slice p25_1 LU.length q25_1, .slice p25_2 LV.length q25_2] (LU, LV, ()) (Btw w24.heap.size w25.heap.size)) := RP_28.out.next hb
        have R_29 : Hid (Bx w29 w25.heap.size [.slice p25_1 LU.length q25_1, .slice p25_2 LV.length q25_2]) := R_28.out.next hb
        clear hb cL0 cL1 zL cR0 cR1 zR LA_28 LB_28 LC_28 GP_28 M_28 NP_28 N_28 TP_28 S_28 LP_28 L_28 RP_28 R_28 HB28
        have HF := Hid.intro HB29.out
        go_wp2
        go_ret
        exact ⟨rfl, HF.out⟩
  case true =>
    obtain ⟨v, hv⟩ := vo_two HCB.out
    have HV := Hid.intro hv
    clear hv
    have HCD := Hid.intro (mc_cb HCB.out)
    have HGC := Hid.intro HV.out.2.2.2.2
    have cC0 := C_15.out.cell 0 rfl
    have cC1 := C_15.out.cell 1 rfl
    have zC := C_15.out.2
    go_wp2_with fail
    refine (vo_l [.slice e1 cu.length f1, .slice e2 cd.length f2] cu cd _ v HV.out.1 HZC.out LC_15.out).mono ?_
    rintro r w16 ⟨rfl, hb⟩
    have HB16 : Hid (Below w.heap.size w w16) := below_next HB15.out hb
    have sz16 : w15.heap.size ≤ w16.heap.size := hb.size
    have LA_16 : Hid (Lies w16 shCounter [.slice p1 u.length k1, .slice p2 d.length k2] (u, d, ())) := LA_15.out.next hb
    have LB_16 : Hid (Lies w16 shCounter [.slice q1 uu.length j1, .slice q2 dd.length j2] (uu, dd, ())) := LB_15.out.next hb
    have A_16 : Hid (Bx w16 w1.heap.size [.slice p1 u.length k1, .slice p2 d.length k2]) := A_15.out.next hb
    have B_16 : Hid (Bx w16 (w1.heap.size + 1) [.slice q1 uu.length j1, .slice q2 dd.length j2]) := B_15.out.next hb
    have LC_16 : Hid (Lies w16 shCounter [.slice e1 cu.length f1, .slice e2 cd.length f2] (cu, cd, ())) := LC_15.out.next hb
    have C_16 : Hid (Bx w16 w4.heap.size [.slice e1 cu.length f1, .slice e2 cd.length f2]) := C_15.out.next hb
    have GP_16 : Hid (Own w16 shCounter [.slice p6_1 U.length q6_1, .slice p6_2 V.length q6_2] (U, V, ()) (Btw w5.heap.size w6.heap.size)) := GP_15.out.next hb
    have M_16 : Hid (Bx w16 w6.heap.size [.slice p6_1 U.length q6_1, .slice p6_2 V.length q6_2]) := M_15.out.next hb
    have GD_16 : Hid (Own w16 shCounter [.slice p11_1 DU.length q11_1, .slice p11_2 DV.length q11_2] (DU, DV, ()) (Btw w10.heap.size w11.heap.size)) := GD_15.out.next hb
    have D_16 : Hid (Bx w16 w11.heap.size [.slice p11_1 DU.length q11_1, .slice p11_2 DV.length q11_2]) := D_15.out.next hb
    clear hb cC0 cC1 zC LA_15 LB_15 A_15 B_15 LC_15 C_15 GP_15 M_15 GD_15 D_15 HB15
    have cD0 := D_16.out.cell 0 rfl
    have cD1 := D_16.out.cell 1 rfl
    have zD := D_16.out.2
    go_wp2_with fail
    refine (vo_l [.slice p11_1 DU.length q11_1, .slice p11_2 DV.length q11_2] DU DV _ (v + sb) HV.out.2.1 HZD.out GD_16.out.lies).mono ?_
    rintro r w17 ⟨rfl, hb⟩
    have HB17 : Hid (Below w.heap.size w w17) := below_next HB16.out hb
    have sz17 : w16.heap.size ≤ w17.heap.size := hb.size
    have LA_17 : Hid (Lies w17 shCounter [.slice p1 u.length k1, .slice p2 d.length k2] (u, d, ())) := LA_16.out.next hb
    have LB_17 : Hid (Lies w17 shCounter [.slice q1 uu.length j1, .slice q2 dd.length j2] (uu, dd, ())) := LB_16.out.next hb
    have A_17 : Hid (Bx w17 w1.heap.size [.slice p1 u.length k1, .slice p2 d.length k2]) := A_16.out.next hb
    have B_17 : Hid (Bx w17 (w1.heap.size + 1) [.slice q1 uu.length j1, .slice q2 dd.length j2]) := B_16.out.next hb
    have LC_17 : Hid (Lies w17 shCounter [.slice e1 cu.length f1, .slice e2 cd.length f2] (cu, cd, ())) := LC_16.out.next hb
    have C_17 : Hid (Bx w17 w4.heap.size [.slice e1 cu.length f1, .slice e2 cd.length f2]) := C_16.out.next hb
    have GP_17 : Hid (Own w17 shCounter [.slice p6_1 U.length q6_1, .slice p6_2 V.length q6_2] (U, V, ()) (Btw w5.heap.size w6.heap.size)) := GP_16.out.next hb
    have M_17 : Hid (Bx w17 w6.heap.size [.slice p6_1 U.length q6_1, .slice p6_2 V.length q6_2]) := M_16.out.next hb
    have GD_17 : Hid (Own w17 shCounter [.slice p11_1 DU.length q11_1, .slice p11_2 DV.length q11_2] (DU, DV, ()) (Btw w10.heap.size w11.heap.size)) := GD_16.out.next hb
    have D_17 : Hid (Bx w17 w11.heap.size [.slice p11_1 DU.length q11_1, .slice p11_2 DV.length q11_2]) := D_16.out.next hb
    clear hb cD0 cD1 zD LA_16 LB_16 A_16 B_16 LC_16 C_16 GP_16 M_16 GD_16 D_16 HB16
    have cC0 := C_17.out.cell 0 rfl
    have cC1 := C_17.out.cell 1 rfl
    have zC := C_17.out.2
    have cD0 := D_17.out.cell 0 rfl
    have cD1 := D_17.out.cell 1 rfl
    have zD := D_17.out.2
    go_wp2_with fail
    refine (mergeCounter_l [.slice e1 cu.length f1, .slice e2 cd.length f2] [.slice p11_1 DU.length q11_1, .slice p11_2 DV.length q11_2] cu cd DU DV _ DU DV true HCD.out HZC.out HZD.out LC_17.out GD_17.out.lies).mono ?_
    rintro r w18 ⟨cs9, rfl, ho, hb⟩
    obtain ⟨p18_1, q18_1, _, p18_2, q18_2, _, hev, _⟩ := own_Counter ho
    subst hev
    have HB18 : Hid (Below w.heap.size w w18) := below_next HB17.out hb
    have sz18 : w17.heap.size ≤ w18.heap.size := hb.size
    have LA_18 : Hid (Lies w18 shCounter [.slice p1 u.length k1, .slice p2 d.length k2] (u, d, ())) := LA_17.out.next hb
    have LB_18 : Hid (Lies w18 shCounter [.slice q1 uu.length j1, .slice q2 dd.length j2] (uu, dd, ())) := LB_17.out.next hb
    have A_18 : Hid (Bx w18 w1.heap.size [.slice p1 u.length k1, .slice p2 d.length k2]) := A_17.out.next hb
    have B_18 : Hid (Bx w18 (w1.heap.size + 1) [.slice q1 uu.length j1, .slice q2 dd.length j2]) := B_17.out.next hb
    have LC_18 : Hid (Lies w18 shCounter [.slice e1 cu.length f1, .slice e2 cd.length f2] (cu, cd, ())) := LC_17.out.next hb
    have C_18 : Hid (Bx w18 w4.heap.size [.slice e1 cu.length f1, .slice e2 cd.length f2]) := C_17.out.next hb
    have GP_18 : Hid (Own w18 shCounter [.slice p6_1 U.length q6_1, .slice p6_2 V.length q6_2] (U, V, ()) (Btw w5.heap.size w6.heap.size)) := GP_17.out.next hb
    have M_18 : Hid (Bx w18 w6.heap.size [.slice p6_1 U.length q6_1, .slice p6_2 V.length q6_2]) := M_17.out.next hb
    have GD_18 : Hid (Own w18 shCounter [.slice p11_1 DU.length q11_1, .slice p11_2 DV.length q11_2] (DU, DV, ()) (Btw w10.heap.size w11.heap.size)) := GD_17.out.next hb
    have D_18 : Hid (Bx w18 w11.heap.size [.slice p11_1 DU.length q11_1, .slice p11_2 DV.length q11_2]) := D_17.out.next hb
    have OP_18 : Hid (Own w18 shCounter [.slice p18_1 DU.length q18_1, .slice p18_2 DV.length q18_2] (DU, DV, ()) (Btw w17.heap.size w18.heap.size)) := ho
    clear hb ho cC0 cC1 zC cD0 cD1 zD LA_17 LB_17 A_17 B_17 LC_17 C_17 GP_17 M_17 GD_17 D_17 HB17
    have hw1 := HV.out.2.2.1
    have hw2 := HV.out.2.2.2.1
    have cD0 := D_18.out.cell 0 rfl
    have cD1 := D_18.out.cell 1 rfl
    have zD := D_18.out.2
    go_wp2_with fail
    obtain ⟨w19, hw19⟩ : ∃ x, x = w18.alloc (.cells #[.slice p18_1 DU.length q18_1, .slice p18_2 DV.length q18_2] 25) := ⟨_, rfl⟩
    have hb : Below w18.heap.size w18 w19 := hw19 ▸ Go.Joins.below_alloc1 _ _
    have HB19 : Hid (Below w.heap.size w w19) := below_next HB18.out hb
    have sz19 : w18.heap.size < w19.heap.size := by rw [hw19]; simp
    have LA_19 : Hid (Lies w19 shCounter [.slice p1 u.length k1, .slice p2 d.length k2] (u, d, ())) := LA_18.out.next hb
    have LB_19 : Hid (Lies w19 shCounter [.slice q1 uu.length j1, .slice q2 dd.length j2] (uu, dd, ())) := LB_18.out.next hb
    have A_19 : Hid (Bx w19 w1.heap.size [.slice p1 u.length k1, .slice p2 d.length k2]) := A_18.out.next hb
    have B_19 : Hid (Bx w19 (w1.heap.size + 1) [.slice q1 uu.length j1, .slice q2 dd.length j2]) := B_18.out.next hb
    have LC_19 : Hid (Lies w19 shCounter [.slice e1 cu.length f1, .slice e2 cd.length f2] (cu, cd, ())) := LC_18.out.next hb
    have C_19 : Hid (Bx w19 w4.heap.size [.slice e1 cu.length f1, .slice e2 cd.length f2]) := C_18.out.next hb
    have GP_19 : Hid (Own w19 shCounter [.slice p6_1 U.length q6_1, .slice p6_2 V.length q6_2] (U, V, ()) (Btw w5.heap.size w6.heap.size)) := GP_18.out.next hb
    have M_19 : Hid (Bx w19 w6.heap.size [.slice p6_1 U.length q6_1, .slice p6_2 V.length q6_2]) := M_18.out.next hb
    have GD_19 : Hid (Own w19 shCounter [.slice p11_1 DU.length q11_1, .slice p11_2 DV.length q11_2] (DU, DV, ()) (Btw w10.heap.size w11.heap.size)) := GD_18.out.next hb
    have D_19 : Hid (Bx w19 w11.heap.size [.slice p11_1 DU.length q11_1, .slice p11_2 DV.length q11_2]) := D_18.out.next hb
    have OP_19 : Hid (Own w19 shCounter [.slice p18_1 DU.length q18_1, .slice p18_2 DV.length q18_2] (DU, DV, ()) (Btw w17.heap.size w18.heap.size)) := OP_18.out.next hb
    have O_19 : Hid (Bx w19 w18.heap.size [.slice p18_1 DU.length q18_1, .slice p18_2 DV.length q18_2]) := hw19 ▸ Bx.new w18 [.slice p18_1 DU.length q18_1, .slice p18_2 DV.length q18_2] _
    rw [← hw19]
    clear hb hw19 cD0 cD1 zD LA_18 LB_18 A_18 B_18 LC_18 C_18 GP_18 M_18 GD_18 D_18 OP_18 HB18
    clear hw1 hw2
    refine (sameC p18_1 q18_1 p18_2 q18_2 p11_1 q11_1 p11_2 q11_2 DU DV _ (by have := HLD.out; omega) (by have := HLD.out; omega) OP_19.out.lies GD_19.out.lies).mono ?_
    rintro r w20 ⟨rfl, hb⟩
    have HB20 : Hid (Below w.heap.size w w20) := below_next HB19.out hb
    have sz20 : w19.heap.size ≤ w20.heap.size := hb.size
    have LA_20 : Hid (Lies w20 shCounter [.slice p1 u.length k1, .slice p2 d.length k2] (u, d, ())) := LA_19.out.next hb
    have LB_20 : Hid (Lies w20 shCounter [.slice q1 uu.length j1, .slice q2 dd.length j2] (uu, dd, ())) := LB_19.out.next hb
    have A_20 : Hid (Bx w20 w1.heap.size [.slice p1 u.length k1, .slice p2 d.length k2]) := A_19.out.next hb
    have B_20 : Hid (Bx w20 (w1.heap.size + 1) [.slice q1 uu.length j1, .slice q2 dd.length j2]) := B_19.out.next hb
    have LC_20 : Hid (Lies w20 shCounter [.slice e1 cu.length f1, .slice e2 cd.length f2] (cu, cd, ())) := LC_19.out.next hb
    have C_20 : Hid (Bx w20 w4.heap.size [.slice e1 cu.length f1, .slice e2 cd.length f2]) := C_19.out.next hb
    have GP_20 : Hid (Own w20 shCounter [.slice p6_1 U.length q6_1, .slice p6_2 V.length q6_2] (U, V, ()) (Btw w5.heap.size w6.heap.size)) := GP_19.out.next hb
    have M_20 : Hid (Bx w20 w6.heap.size [.slice p6_1 U.length q6_1, .slice p6_2 V.length q6_2]) := M_19.out.next hb
    have GD_20 : Hid (Own w20 shCounter [.slice p11_1 DU.length q11_1, .slice p11_2 DV.length q11_2] (DU, DV, ()) (Btw w10.heap.size w11.heap.size)) := GD_19.out.next hb
    have D_20 : Hid (Bx w20 w11.heap.size [.slice p11_1 DU.length q11_1, .slice p11_2 DV.length q11_2]) := D_19.out.next hb
    have OP_20 : Hid (Own w20 shCounter [.slice p18_1 DU.length q18_1, .slice p18_2 DV.length q18_2] (DU, DV, ()) (Btw w17.heap.size w18.heap.size)) := OP_19.out.next hb
    have O_20 : Hid (Bx w20 w18.heap.size [.slice p18_1 DU.length q18_1, .slice p18_2 DV.length q18_2]) := O_19.out.next hb
    clear hb LA_19 LB_19 A_19 B_19 LC_19 C_19 GP_19 M_19 GD_19 D_19 OP_19 O_19 HB19
    clear O_20
    clear OP_20
    clear D_20
    clear GD_20
    cases z
    case false =>
      have HF := Hid.intro HB20.out
      go_wp2
      go_ret
      exact ⟨rfl, HF.out⟩
    case true =>
      obtain ⟨LU, LV, QU, QV, hL, hQ, hR⟩ := mc_third HM.out HGC.out
      have HL := Hid.intro hL
      have HQ := Hid.intro hQ
      have HR := Hid.intro hR
      have HN := Hid.intro (mc_comm HM.out)
      have HS := Hid.intro (mc_self HM.out)
      have HZQ := Hid.intro (sz_mcA hQ)
      have HLL := Hid.intro (len_mcA hL)
      clear hL hQ hR
      have cC0 := C_20.out.cell 0 rfl
      have cC1 := C_20.out.cell 1 rfl
      have zC := C_20.out.2
      go_wp2_with fail
      refine (gc_l [.slice e1 cu.length f1, .slice e2 cd.length f2] cu cd _ true (tf_yes HGC.out) HZC.out LC_20.out).mono ?_
      rintro r w21 ⟨rfl, hb⟩
      have HB21 : Hid (Below w.heap.size w w21) := below_next HB20.out hb
      have sz21 : w20.heap.size ≤ w21.heap.size := hb.size
      have LA_21 : Hid (Lies w21 shCounter [.slice p1 u.length k1, .slice p2 d.length k2] (u, d, ())) := LA_20.out.next hb
      have LB_21 : Hid (Lies w21 shCounter [.slice q1 uu.length j1, .slice q2 dd.length j2] (uu, dd, ())) := LB_20.out.next hb
      have A_21 : Hid (Bx w21 w1.heap.size [.slice p1 u.length k1, .slice p2 d.length k2]) := A_20.out.next hb
      have B_21 : Hid (Bx w21 (w1.heap.size + 1) [.slice q1 uu.length j1, .slice q2 dd.length j2]) := B_20.out.next hb
      have LC_21 : Hid (Lies w21 shCounter [.slice e1 cu.length f1, .slice e2 cd.length f2] (cu, cd, ())) := LC_20.out.next hb
      have C_21 : Hid (Bx w21 w4.heap.size [.slice e1 cu.length f1, .slice e2 cd.length f2]) := C_20.out.next hb
      have GP_21 : Hid (Own w21 shCounter [.slice p6_1 U.length q6_1, .slice p6_2 V.length q6_2] (U, V, ()) (Btw w5.heap.size w6.heap.size)) := GP_20.out.next hb
      have M_21 : Hid (Bx w21 w6.heap.size [.slice p6_1 U.length q6_1, .slice p6_2 V.length q6_2]) := M_20.out.next hb
      clear hb cC0 cC1 zC LA_20 LB_20 A_20 B_20 LC_20 C_20 GP_20 M_20 HB20
      have cA0 := A_21.out.cell 0 rfl
      have cA1 := A_21.out.cell 1 rfl
      have zA := A_21.out.2
      have cB0 := B_21.out.cell 0 rfl
      have cB1 := B_21.out.cell 1 rfl
      have zB := B_21.out.2
      go_wp2_with fail
      refine (mergeCounter_l [.slice q1 uu.length j1, .slice q2 dd.length j2] [.slice p1 u.length k1, .slice p2 d.length k2] uu dd u d _ U V true HN.out HZB.out HZA.out LB_21.out LA_21.out).mono ?_
      rintro r w22 ⟨cs9, rfl, ho, hb⟩
      obtain ⟨p22_1, q22_1, _, p22_2, q22_2, _, hev, _⟩ := own_Counter ho
      subst hev
      have HB22 : Hid (Below w.heap.size w w22) := below_next HB21.out hb
      have sz22 : w21.heap.size ≤ w22.heap.size := hb.size
      have LA_22 : Hid (Lies w22 shCounter [.slice p1 u.length k1, .slice p2 d.length k2] (u, d, ())) := LA_21.out.next hb
      have LB_22 : Hid (Lies w22 shCounter [.slice q1 uu.length j1, .slice q2 dd.length j2] (uu, dd, ())) := LB_21.out.next hb
      have A_22 : Hid (Bx w22 w1.heap.size [.slice p1 u.length k1, .slice p2 d.length k2]) := A_21.out.next hb
      have B_22 : Hid (Bx w22 (w1.heap.size + 1) [.slice q1 uu.length j1, .slice q2 dd.length j2]) := B_21.out.next hb
      have LC_22 : Hid (Lies w22 shCounter [.slice e1 cu.length f1, .slice e2 cd.length f2] (cu, cd, ())) := LC_21.out.next hb
      have C_22 : Hid (Bx w22 w4.heap.size [.slice e1 cu.length f1, .slice e2 cd.length f2]) := C_21.out.next hb
      have GP_22 : Hid (Own w22 shCounter [.slice p6_1 U.length q6_1, .slice p6_2 V.length q6_2] (U, V, ()) (Btw w5.heap.size w6.heap.size)) := GP_21.out.next hb
      have M_22 : Hid (Bx w22 w6.heap.size [.slice p6_1 U.length q6_1, .slice p6_2 V.length q6_2]) := M_21.out.next hb
      have NP_22 : Hid (Own w22 shCounter [.slice p22_1 U.length q22_1, .slice p22_2 V.length q22_2] (U, V, ()) (Btw w21.heap.size w22.heap.size)) := ho
      clear hb ho cA0 cA1 zA cB0 cB1 zB LA_21 LB_21 A_21 B_21 LC_21 C_21 GP_21 M_21 HB21
      have cM0 := M_22.out.cell 0 rfl
      have cM1 := M_22.out.cell 1 rfl
      have zM := M_22.out.2
      go_wp2_with fail
      obtain ⟨w23, hw23⟩ : ∃ x, x = w22.alloc (.cells #[.slice p22_1 U.length q22_1, .slice p22_2 V.length q22_2] 25) := ⟨_, rfl⟩
      have hb : Below w22.heap.size w22 w23 := hw23 ▸ Go.Joins.below_alloc1 _ _
      have HB23 : Hid (Below w.heap.size w w23) := below_next HB22.out hb
      have sz23 : w22.heap.size < w23.heap.size := by rw [hw23]; simp
      have LA_23 : Hid (Lies w23 shCounter [.slice p1 u.length k1, .slice p2 d.length k2] (u, d, ())) := LA_22.out.next hb
      have LB_23 : Hid (Lies w23 shCounter [.slice q1 uu.length j1, .slice q2 dd.length j2] (uu, dd, ())) := LB_22.out.next hb
      have A_23 : Hid (Bx w23 w1.heap.size [.slice p1 u.length k1, .slice p2 d.length k2]) := A_22.out.next hb
      have B_23 : Hid (Bx w23 (w1.heap.size + 1) [.slice q1 uu.length j1, .slice q2 dd.length j2]) := B_22.out.next hb
      have LC_23 : Hid (Lies w23 shCounter [.slice e1 cu.length f1, .slice e2 cd.length f2] (cu, cd, ())) := LC_22.out.next hb
      have C_23 : Hid (Bx w23 w4.heap.size [.slice e1 cu.length f1, .slice e2 cd.length f2]) := C_22.out.next hb
      have GP_23 : Hid (Own w23 shCounter [.slice p6_1 U.length q6_1, .slice p6_2 V.length q6_2] (U, V, ()) (Btw w5.heap.size w6.heap.size)) := GP_22.out.next hb
      have M_23 : Hid (Bx w23 w6.heap.size [.slice p6_1 U.length q6_1, .slice p6_2 V.length q6_2]) := M_22.out.next hb
      have NP_23 : Hid (Own w23 shCounter [.slice p22_1 U.length q22_1, .slice p22_2 V.length q22_2] (U, V, ()) (Btw w21.heap.size w22.heap.size)) := NP_22.out.next hb
      have N_23 : Hid (Bx w23 w22.heap.size [.slice p22_1 U.length q22_1, .slice p22_2 V.length q22_2]) := hw23 ▸ Bx.new w22 [.slice p22_1 U.length q22_1, .slice p22_2 V.length q22_2] _
      rw [← hw23]
      clear hb hw23 cM0 cM1 zM LA_22 LB_22 A_22 B_22 LC_22 C_22 GP_22 M_22 NP_22 HB22
      refine (mergeCounter_l [.slice p6_1 U.length q6_1, .slice p6_2 V.length q6_2] [.slice p6_1 U.length q6_1, .slice p6_2 V.length q6_2] U V U V _ U V true HS.out HZM.out HZM.out GP_23.out.lies GP_23.out.lies).mono ?_
      rintro r w24 ⟨cs9, rfl, ho, hb⟩
      obtain ⟨p24_1, q24_1, _, p24_2, q24_2, _, hev, _⟩ := own_Counter ho
      subst hev
      have HB24 : Hid (Below w.heap.size w w24) := below_next HB23.out hb
      have sz24 : w23.heap.size ≤ w24.heap.size := hb.size
      have LA_24 : Hid (Lies w24 shCounter [.slice p1 u.length k1, .slice p2 d.length k2] (u, d, ())) := LA_23.out.next hb
      have LB_24 : Hid (Lies w24 shCounter [.slice q1 uu.length j1, .slice q2 dd.length j2] (uu, dd, ())) := LB_23.out.next hb
      have A_24 : Hid (Bx w24 w1.heap.size [.slice p1 u.length k1, .slice p2 d.length k2]) := A_23.out.next hb
      have B_24 : Hid (Bx w24 (w1.heap.size + 1) [.slice q1 uu.length j1, .slice q2 dd.length j2]) := B_23.out.next hb
      have LC_24 : Hid (Lies w24 shCounter [.slice e1 cu.length f1, .slice e2 cd.length f2] (cu, cd, ())) := LC_23.out.next hb
      have C_24 : Hid (Bx w24 w4.heap.size [.slice e1 cu.length f1, .slice e2 cd.length f2]) := C_23.out.next hb
      have GP_24 : Hid (Own w24 shCounter [.slice p6_1 U.length q6_1, .slice p6_2 V.length q6_2] (U, V, ()) (Btw w5.heap.size w6.heap.size)) := GP_23.out.next hb
      have M_24 : Hid (Bx w24 w6.heap.size [.slice p6_1 U.length q6_1, .slice p6_2 V.length q6_2]) := M_23.out.next hb
      have NP_24 : Hid (Own w24 shCounter [.slice p22_1 U.length q22_1, .slice p22_2 V.length q22_2] (U, V, ()) (Btw w21.heap.size w22.heap.size)) := NP_23.out.next hb
      have N_24 : Hid (Bx w24 w22.heap.size [.slice p22_1 U.length q22_1, .slice p22_2 V.length q22_2]) := N_23.out.next hb
      have TP_24 : Hid (Own w24 shCounter [.slice p24_1 U.length q24_1, .slice p24_2 V.length q24_2] (U, V, ()) (Btw w23.heap.size w24.heap.size)) := ho
      clear hb ho LA_23 LB_23 A_23 B_23 LC_23 C_23 GP_23 M_23 NP_23 N_23 HB23
      have cM0 := M_24.out.cell 0 rfl
      have cM1 := M_24.out.cell 1 rfl
      have zM := M_24.out.2
      have cC0 := C_24.out.cell 0 rfl
      have cC1 := C_24.out.cell 1 rfl
      have zC := C_24.out.2
      go_wp2_with fail
      obtain ⟨w25, hw25⟩ : ∃ x, x = w24.alloc (.cells #[.slice p24_1 U.length q24_1, .slice p24_2 V.length q24_2] 25) := ⟨_, rfl⟩
      have hb : Below w24.heap.size w24 w25 := hw25 ▸ Go.Joins.below_alloc1 _ _
      have HB25 : Hid (Below w.heap.size w w25) := below_next HB24.out hb
      have sz25 : w24.heap.size < w25.heap.size := by rw [hw25]; simp
      have LA_25 : Hid (Lies w25 shCounter [.slice p1 u.length k1, .slice p2 d.length k2] (u, d, ())) := LA_24.out.next hb
      have LB_25 : Hid (Lies w25 shCounter [.slice q1 uu.length j1, .slice q2 dd.length j2] (uu, dd, ())) := LB_24.out.next hb
      have A_25 : Hid (Bx w25 w1.heap.size [.slice p1 u.length k1, .slice p2 d.length k2]) := A_24.out.next hb
      have B_25 : Hid (Bx w25 (w1.heap.size + 1) [.slice q1 uu.length j1, .slice q2 dd.length j2]) := B_24.out.next hb
      have LC_25 : Hid (Lies w25 shCounter [.slice e1 cu.length f1, .slice e2 cd.length f2] (cu, cd, ())) := LC_24.out.next hb
      have C_25 : Hid (Bx w25 w4.heap.size [.slice e1 cu.length f1, .slice e2 cd.length f2]) := C_24.out.next hb
      have GP_25 : Hid (Own w25 shCounter [.slice p6_1 U.length q6_1, .slice p6_2 V.length q6_2] (U, V, ()) (Btw w5.heap.size w6.heap.size)) := GP_24.out.next hb
      have M_25 : Hid (Bx w25 w6.heap.size [.slice p6_1 U.length q6_1, .slice p6_2 V.length q6_2]) := M_24.out.next hb
      have NP_25 : Hid (Own w25 shCounter [.slice p22_1 U.length q22_1, .slice p22_2 V.length q22_2] (U, V, ()) (Btw w21.heap.size w22.heap.size)) := NP_24.out.next hb
      have N_25 : Hid (Bx w25 w22.heap.size [.slice p22_1 U.length q22_1, .slice p22_2 V.length q22_2]) := N_24.out.next hb
      have TP_25 : Hid (Own w25 shCounter [.slice p24_1 U.length q24_1, .slice p24_2 V.length q24_2] (U, V, ()) (Btw w23.heap.size w24.heap.size)) := TP_24.out.next hb
      have S_25 : Hid (Bx w25 w24.heap.size [.slice p24_1 U.length q24_1, .slice p24_2 V.length q24_2]) := hw25 ▸ Bx.new w24 [.slice p24_1 U.length q24_1, .slice p24_2 V.length q24_2] _
      rw [← hw25]
      clear hb hw25 cM0 cM1 zM cC0 cC1 zC LA_24 LB_24 A_24 B_24 LC_24 C_24 GP_24 M_24 NP_24 N_24 TP_24 HB24
      refine (mergeCounter_l [.slice p6_1 U.length q6_1, .slice p6_2 V.length q6_2] [.slice e1 cu.length f1, .slice e2 cd.length f2] U V cu cd _ LU LV true HL.out HZM.out HZC.out GP_25.out.lies LC_25.out).mono ?_
      rintro r w26 ⟨cs9, rfl, ho, hb⟩
      obtain ⟨p26_1, q26_1, _, p26_2, q26_2, _, hev, _⟩ := own_Counter ho
      subst hev
      have HB26 : Hid (Below w.heap.size w w26) := below_next HB25.out hb
      have sz26 : w25.heap.size ≤ w26.heap.size := hb.size
      have LA_26 : Hid (Lies w26 shCounter [.slice p1 u.length k1, .slice p2 d.length k2] (u, d, ())) := LA_25.out.next hb
      have LB_26 : Hid (Lies w26 shCounter [.slice q1 uu.length j1, .slice q2 dd.length j2] (uu, dd, ())) := LB_25.out.next hb
      have A_26 : Hid (Bx w26 w1.heap.size [.slice p1 u.length k1, .slice p2 d.length k2]) := A_25.out.next hb
      have B_26 : Hid (Bx w26 (w1.heap.size + 1) [.slice q1 uu.length j1, .slice q2 dd.length j2]) := B_25.out.next hb
      have LC_26 : Hid (Lies w26 shCounter [.slice e1 cu.length f1, .slice e2 cd.length f2] (cu, cd, ())) := LC_25.out.next hb
      have C_26 : Hid (Bx w26 w4.heap.size [.slice e1 cu.length f1, .slice e2 cd.length f2]) := C_25.out.next hb
      have GP_26 : Hid (Own w26 shCounter [.slice p6_1 U.length q6_1, .slice p6_2 V.length q6_2] (U, V, ()) (Btw w5.heap.size w6.heap.size)) := GP_25.out.next hb
      have M_26 : Hid (Bx w26 w6.heap.size [.slice p6_1 U.length q6_1, .slice p6_2 V.length q6_2]) := M_25.out.next hb
      have NP_26 : Hid (Own w26 shCounter [.slice p22_1 U.length q22_1, .slice p22_2 V.length q22_2] (U, V, ()) (Btw w21.heap.size w22.heap.size)) := NP_25.out.next hb
      have N_26 : Hid (Bx w26 w22.heap.size [.slice p22_1 U.length q22_1, .slice p22_2 V.length q22_2]) := N_25.out.next hb
      have TP_26 : Hid (Own w26 shCounter [.slice p24_1 U.length q24_1, .slice p24_2 V.length q24_2] (U, V, ()) (Btw w23.heap.size w24.heap.size)) := TP_25.out.next hb
      have S_26 : Hid (Bx w26 w24.heap.size [.slice p24_1 U.length q24_1, .slice p24_2 V.length q24_2]) := S_25.out.next hb
      have LP_26 : Hid (Own w26 shCounter [.slice p26_1 LU.length q26_1, .slice p26_2 LV.length q26_2] (LU, LV, ()) (Btw w25.heap.size w26.heap.size)) := ho
      clear hb ho LA_25 LB_25 A_25 B_25 LC_25 C_25 GP_25 M_25 NP_25 N_25 TP_25 S_25 HB25
      have cB0 := B_26.out.cell 0 rfl
      have cB1 := B_26.out.cell 1 rfl
      have zB := B_26.out.2
      have cC0 := C_26.out.cell 0 rfl
      have cC1 := C_26.out.cell 1 rfl
      have zC := C_26.out.2
      go_wp2_with fail
      obtain ⟨w27, hw27⟩ : ∃ x, x = w26.alloc (.cells #[.slice p26_1 LU.length q26_1, .slice p26_2 LV.length q26_2] 25) := ⟨_, rfl⟩
      have hb : Below w26.heap.size w26 w27 := hw27 ▸ Go.Joins.below_alloc1 _ _
      have HB27 : Hid (Below w.heap.size w w27) := below_next HB26.out hb
      have sz27 : w26.heap.size < w27.heap.size := by rw [hw27]; simp
      have LA_27 : Hid (Lies w27 shCounter [.slice p1 u.length k1, .slice p2 d.length k2] (u, d, ())) := LA_26.out.next hb
      have LB_27 : Hid (Lies w27 shCounter [.slice q1 uu.length j1, .slice q2 dd.length j2] (uu, dd, ())) := LB_26.out.next hb
      have A_27 : Hid (Bx w27 w1.heap.size [.slice p1 u.length k1, .slice p2 d.length k2]) := A_26.out.next hb
      have B_27 : Hid (Bx w27 (w1.heap.size + 1) [.slice q1 uu.length j1, .slice q2 dd.length j2]) := B_26.out.next hb
      have LC_27 : Hid (Lies w27 shCounter [.slice e1 cu.length f1, .slice e2 cd.length f2] (cu, cd, ())) := LC_26.out.next hb
      have C_27 : Hid (Bx w27 w4.heap.size [.slice e1 cu.length f1, .slice e2 cd.length f2]) := C_26.out.next hb
      have GP_27 : Hid (Own w27 shCounter [.slice p6_1 U.length q6_1, .slice p6_2 V.length q6_2] (U, V, ()) (Btw w5.heap.size w6.heap.size)) := GP_26.out.next hb
      have M_27 : Hid (Bx w27 w6.heap.size [.slice p6_1 U.length q6_1, .slice p6_2 V.length q6_2]) := M_26.out.next hb
      have NP_27 : Hid (Own w27 shCounter [.slice p22_1 U.length q22_1, .slice p22_2 V.length q22_2] (U, V, ()) (Btw w21.heap.size w22.heap.size)) := NP_26.out.next hb
      have N_27 : Hid (Bx w27 w22.heap.size [.slice p22_1 U.length q22_1, .slice p22_2 V.length q22_2]) := N_26.out.next hb
      have TP_27 : Hid (Own w27 shCounter [.slice p24_1 U.length q24_1, .slice p24_2 V.length q24_2] (U, V, ()) (Btw w23.heap.size w24.heap.size)) := TP_26.out.next hb
      have S_27 : Hid (Bx w27 w24.heap.size [.slice p24_1 U.length q24_1, .slice p24_2 V.length q24_2]) := S_26.out.next hb
      have LP_27 : Hid (Own w27 shCounter [.slice p26_1 LU.length q26_1, .slice p26_2 LV.length q26_2] (LU, LV, ()) (Btw w25.heap.size w26.heap.size)) := LP_26.out.next hb
      have L_27 : Hid (Bx w27 w26.heap.size [.slice p26_1 LU.length q26_1, .slice p26_2 LV.length q26_2]) := hw27 ▸ Bx.new w26 [.slice p26_1 LU.length q26_1, .slice p26_2 LV.length q26_2] _
      rw [← hw27]
      clear hb hw27 cB0 cB1 zB cC0 cC1 zC LA_26 LB_26 A_26 B_26 LC_26 C_26 GP_26 M_26 NP_26 N_26 TP_26 S_26 LP_26 HB26
      refine (mergeCounter_l [.slice q1 uu.length j1, .slice q2 dd.length j2] [.slice e1 cu.length f1, .slice e2 cd.length f2] uu dd cu cd _ QU QV true HQ.out HZB.out HZC.out LB_27.out LC_27.out).mono ?_
      rintro r w28 ⟨cs9, rfl, ho, hb⟩
      obtain ⟨p28_1, q28_1, _, p28_2, q28_2, _, hev, _⟩ := own_Counter ho
      subst hev
      have HB28 : Hid (Below w.heap.size w w28) := below_next HB27.out hb
      have sz28 : w27.heap.size ≤ w28.heap.size := hb.size
      have LA_28 : Hid (Lies w28 shCounter [.slice p1 u.length k1, .slice p2 d.length k2] (u, d, ())) := LA_27.out.next hb
      have LB_28 : Hid (Lies w28 shCounter [.slice q1 uu.length j1, .slice q2 dd.length j2] (uu, dd, ())) := LB_27.out.next hb
      have A_28 : Hid (Bx w28 w1.heap.size [.slice p1 u.length k1, .slice p2 d.length k2]) := A_27.out.next hb
      have B_28 : Hid (Bx w28 (w1.heap.size + 1) [.slice q1 uu.length j1, .slice q2 dd.length j2]) := B_27.out.next hb
      have LC_28 : Hid (Lies w28 shCounter [.slice e1 cu.length f1, .slice e2 cd.length f2] (cu, cd, ())) := LC_27.out.next hb
      have C_28 : Hid (Bx w28 w4.heap.size [.slice e1 cu.length f1, .slice e2 cd.length f2]) := C_27.out.next hb
      have GP_28 : Hid (Own w28 shCounter [.slice p6_1 U.length q6_1, .slice p6_2 V.length q6_2] (U, V, ()) (Btw w5.heap.size w6.heap.size)) := GP_27.out.next hb
      have M_28 : Hid (Bx w28 w6.heap.size [.slice p6_1 U.length q6_1, .slice p6_2 V.length q6_2]) := M_27.out.next hb
      have NP_28 : Hid (Own w28 shCounter [.slice p22_1 U.length q22_1, .slice p22_2 V.length q22_2] (U, V, ()) (Btw w21.heap.size w22.heap.size)) := NP_27.out.next hb
      have N_28 : Hid (Bx w28 w22.heap.size [.slice p22_1 U.length q22_1, .slice p22_2 V.length q22_2]) := N_27.out.next hb
      have TP_28 : Hid (Own w28 shCounter [.slice p24_1 U.length q24_1, .slice p24_2 V.length q24_2] (U, V, ()) (Btw w23.heap.size w24.heap.size)) := TP_27.out.next hb
      have S_28 : Hid (Bx w28 w24.heap.size [.slice p24_1 U.length q24_1, .slice p24_2 V.length q24_2]) := S_27.out.next hb
      have LP_28 : Hid (Own w28 shCounter [.slice p26_1 LU.length q26_1, .slice p26_2 LV.length q26_2] (LU, LV, ()) (Btw w25.heap.size w26.heap.size)) := LP_27.out.next hb
      have L_28 : Hid (Bx w28 w26.heap.size [.slice p26_1 LU.length q26_1, .slice p26_2 LV.length q26_2]) := L_27.out.next hb
      have QP_28 : Hid (Own w28 shCounter [.slice p28_1 QU.length q28_1, .slice p28_2 QV.length q28_2] (QU, QV, ()) (Btw w27.heap.size w28.heap.size)) := ho
      clear hb ho LA_27 LB_27 A_27 B_27 LC_27 C_27 GP_27 M_27 NP_27 N_27 TP_27 S_27 LP_27 L_27 HB27
      have cA0 := A_28.out.cell 0 rfl
      have cA1 := A_28.out.cell 1 rfl
      have zA := A_28.out.2
      go_wp2_with fail
      obtain ⟨w29, hw29⟩ : ∃ x, x = w28.alloc (.cells #[.slice p28_1 QU.length q28_1, .slice p28_2 QV.length q28_2] 25) := ⟨_, rfl⟩
      have hb : Below w28.heap.size w28 w29 := hw29 ▸ Go.Joins.below_alloc1 _ _
      have HB29 : Hid (Below w.heap.size w w29) := below_next HB28.out hb
      have sz29 : w28.heap.size < w29.heap.size := by rw [hw29]; simp
      have LA_29 : Hid (Lies w29 shCounter [.slice p1 u.length k1, .slice p2 d.length k2] (u, d, ())) := LA_28.out.next hb
      have LB_29 : Hid (Lies w29 shCounter [.slice q1 uu.length j1, .slice q2 dd.length j2] (uu, dd, ())) := LB_28.out.next hb
      have A_29 : Hid (Bx w29 w1.heap.size [.slice p1 u.length k1, .slice p2 d.length k2]) := A_28.out.next hb
      have B_29 : Hid (Bx w29 (w1.heap.size + 1) [.slice q1 uu.length j1, .slice q2 dd.length j2]) := B_28.out.next hb
      have LC_29 : Hid (Lies w29 shCounter [.slice e1 cu.length f1, .slice e2 cd.length f2] (cu, cd, ())) := LC_28.out.next hb
      have C_29 : Hid (Bx w29 w4.heap.size [.slice e1 cu.length f1, .slice e2 cd.length f2]) := C_28.out.next hb
      have GP_29 : Hid (Own w29 shCounter [.slice p6_1 U.length q6_1, .slice p6_2 V.length q6_2] (U, V, ()) (Btw w5.heap.size w6.heap.size)) := GP_28.out.next hb
      have M_29 : Hid (Bx w29 w6.heap.size [.slice p6_1 U.length q6_1, .slice p6_2 V.length q6_2]) := M_28.out.next hb
      have NP_29 : Hid (Own w29 shCounter [.slice p22_1 U.length q22_1, .slice p22_2 V.length q22_2] (U, V, ()) (Btw w21.heap.size w22.heap.size)) := NP_28.out.next hb
      have N_29 : Hid (Bx w29 w22.heap.size [.slice p22_1 U.length q22_1, .slice p22_2 V.length q22_2]) := N_28.out.next hb
      have TP_29 : Hid (Own w29 shCounter [.slice p24_1 U.length q24_1, .slice p24_2 V.length q24_2] (U, V, ()) (Btw w23.heap.size w24.heap.size)) := TP_28.out.next hb
      have S_29 : Hid (Bx w29 w24.heap.size [.slice p24_1 U.length q24_1, .slice p24_2 V.length q24_2]) := S_28.out.next hb
      have LP_29 : Hid (Own w29 shCounter [.slice p26_1 LU.length q26_1, .slice p26_2 LV.length q26_2] (LU, LV, ()) (Btw w25.heap.size w26.heap.size)) := LP_28.out.next hb
      have L_29 : Hid (Bx w29 w26.heap.size [.slice p26_1 LU.length q26_1, .slice p26_2 LV.length q26_2]) := L_28.out.next hb
      have QP_29 : Hid (Own w29 shCounter [.slice p28_1 QU.length q28_1, .slice p28_2 QV.length q28_2] (QU, QV, ()) (Btw w27.heap.size w28.heap.size)) := QP_28.out.next hb
      have Q_29 : Hid (Bx w29 w28.heap.size [.slice p28_1 QU.length q28_1, .slice p28_2 QV.length q28_2]) := hw29 ▸ Bx.new w28 [.slice p28_1 QU.length q28_1, .slice p28_2 QV.length q28_2] _
      rw [← hw29]
      clear hb hw29 cA0 cA1 zA LA_28 LB_28 A_28 B_28 LC_28 C_28 GP_28 M_28 NP_28 N_28 TP_28 S_28 LP_28 L_28 QP_28 HB28
      refine (mergeCounter_l [.slice p1 u.length k1, .slice p2 d.length k2] [.slice p28_1 QU.length q28_1, .slice p28_2 QV.length q28_2] u d QU QV _ LU LV true HR.out HZA.out HZQ.out LA_29.out QP_29.out.lies).mono ?_
      rintro r w30 ⟨cs9, rfl, ho, hb⟩
      obtain ⟨p30_1, q30_1, _, p30_2, q30_2, _, hev, _⟩ := own_Counter ho
      subst hev
      have HB30 : Hid (Below w.heap.size w w30) := below_next HB29.out hb
      have sz30 : w29.heap.size ≤ w30.heap.size := hb.size
      have LA_30 : Hid (Lies w30 shCounter [.slice p1 u.length k1, .slice p2 d.length k2] (u, d, ())) := LA_29.out.next hb
      have LB_30 : Hid (Lies w30 shCounter [.slice q1 uu.length j1, .slice q2 dd.length j2] (uu, dd, ())) := LB_29.out.next hb
      have A_30 : Hid (Bx w30 w1.heap.size [.slice p1 u.length k1, .slice p2 d.length k2]) := A_29.out.next hb
      have B_30 : Hid (Bx w30 (w1.heap.size + 1) [.slice q1 uu.length j1, .slice q2 dd.length j2]) := B_29.out.next hb
      have LC_30 : Hid (Lies w30 shCounter [.slice e1 cu.length f1, .slice e2 cd.length f2] (cu, cd, ())) := LC_29.out.next hb
      have C_30 : Hid (Bx w30 w4.heap.size [.slice e1 cu.length f1, .slice e2 cd.length f2]) := C_29.out.next hb
      have GP_30 : Hid (Own w30 shCounter [.slice p6_1 U.length q6_1, .slice p6_2 V.length q6_2] (U, V, ()) (Btw w5.heap.size w6.heap.size)) := GP_29.out.next hb
      have M_30 : Hid (Bx w30 w6.heap.size [.slice p6_1 U.length q6_1, .slice p6_2 V.length q6_2]) := M_29.out.next hb
      have NP_30 : Hid (Own w30 shCounter [.slice p22_1 U.length q22_1, .slice p22_2 V.length q22_2] (U, V, ()) (Btw w21.heap.size w22.heap.size)) := NP_29.out.next hb
      have N_30 : Hid (Bx w30 w22.heap.size [.slice p22_1 U.length q22_1, .slice p22_2 V.length q22_2]) := N_29.out.next hb
      have TP_30 : Hid (Own w30 shCounter [.slice p24_1 U.length q24_1, .slice p24_2 V.length q24_2] (U, V, ()) (Btw w23.heap.size w24.heap.size)) := TP_29.out.next hb
      have S_30 : Hid (Bx w30 w24.heap.size [.slice p24_1 U.length q24_1, .slice p24_2 V.length q24_2]) := S_29.out.next hb
      have LP_30 : Hid (Own w30 shCounter [.slice p26_1 LU.length q26_1, .slice p26_2 LV.length q26_2] (LU, LV, ()) (Btw w25.heap.size w26.heap.size)) := LP_29.out.next hb
      have L_30 : Hid (Bx w30 w26.heap.size [.slice p26_1 LU.length q26_1, .slice p26_2 LV.length q26_2]) := L_29.out.next hb
      have QP_30 : Hid (Own w30 shCounter [.slice p28_1 QU.length q28_1, .slice p28_2 QV.length q28_2] (QU, QV, ()) (Btw w27.heap.size w28.heap.size)) := QP_29.out.next hb
      have Q_30 : Hid (Bx w30 w28.heap.size [.slice p28_1 QU.length q28_1, .slice p28_2 QV.length q28_2]) := Q_29.out.next hb
      have RP_30 : Hid (Own w30 shCounter [.slice p30_1 LU.length q30_1, .slice p30_2 LV.length q30_2] (LU, LV, ()) (Btw w29.heap.size w30.heap.size)) := ho
      clear hb ho LA_29 LB_29 A_29 B_29 LC_29 C_29 GP_29 M_29 NP_29 N_29 TP_29 S_29 LP_29 L_29 QP_29 Q_29 HB29
      clear A_30
      clear B_30
      clear C_30
      clear Q_30
      clear QP_30
      have cN0 := N_30.out.cell 0 rfl
      have cN1 := N_30.out.cell 1 rfl
      have zN := N_30.out.2
      have cM0 := M_30.out.cell 0 rfl
      have cM1 := M_30.out.cell 1 rfl
      have zM := M_30.out.2
      go_wp2_with fail
      obtain ⟨w31, hw31⟩ : ∃ x, x = w30.alloc (.cells #[.slice p30_1 LU.length q30_1, .slice p30_2 LV.length q30_2] 25) := ⟨_, rfl⟩
      have hb : Below w30.heap.size w30 w31 := hw31 ▸ Go.Joins.below_alloc1 _ _
      have HB31 : Hid (Below w.heap.size w w31) := below_next HB30.out hb
      have sz31 : w30.heap.size < w31.heap.size := by rw [hw31]; simp
      have LA_31 : Hid (Lies w31 shCounter [.slice p1 u.length k1, .slice p2 d.length k2] (u, d, ())) := LA_30.out.next hb
      have LB_31 : Hid (Lies w31 shCounter [.slice q1 uu.length j1, .slice q2 dd.length j2] (uu, dd, ())) := LB_30.out.next hb
      have LC_31 : Hid (Lies w31 shCounter [.slice e1 cu.length f1, .slice e2 cd.length f2] (cu, cd, ())) := LC_30.out.next hb
      have GP_31 : Hid (Own w31 shCounter [.slice p6_1 U.length q6_1, .slice p6_2 V.length q6_2] (U, V, ()) (Btw w5.heap.size w6.heap.size)) := GP_30.out.next hb
      have M_31 : Hid (Bx w31 w6.heap.size [.slice p6_1 U.length q6_1, .slice p6_2 V.length q6_2]) := M_30.out.next hb
      have NP_31 : Hid (Own w31 shCounter [.slice p22_1 U.length q22_1, .slice p22_2 V.length q22_2] (U, V, ()) (Btw w21.heap.size w22.heap.size)) := NP_30.out.next hb
      have N_31 : Hid (Bx w31 w22.heap.size [.slice p22_1 U.length q22_1, .slice p22_2 V.length q22_2]) := N_30.out.next hb
      have TP_31 : Hid (Own w31 shCounter [.slice p24_1 U.length q24_1, .slice p24_2 V.length q24_2] (U, V, ()) (Btw w23.heap.size w24.heap.size)) := TP_30.out.next hb
      have S_31 : Hid (Bx w31 w24.heap.size [.slice p24_1 U.length q24_1, .slice p24_2 V.length q24_2]) := S_30.out.next hb
      have LP_31 : Hid (Own w31 shCounter [.slice p26_1 LU.length q26_1, .slice p26_2 LV.length q26_2] (LU, LV, ()) (Btw w25.heap.size w26.heap.size)) := LP_30.out.next hb
      have L_31 : Hid (Bx w31 w26.heap.size [.slice p26_1 LU.length q26_1, .slice p26_2 LV.length q26_2]) := L_30.out.next hb
      have RP_31 : Hid (Own w31 shCounter [.slice p30_1 LU.length q30_1, .slice p30_2 LV.length q30_2] (LU, LV, ()) (Btw w29.heap.size w30.heap.size)) := RP_30.out.next hb
      have R_31 : Hid (Bx w31 w30.heap.size [.slice p30_1 LU.length q30_1, .slice p30_2 LV.length q30_2]) := hw31 ▸ Bx.new w30 [.slice p30_1 LU.length q30_1, .slice p30_2 LV.length q30_2] _
      rw [← hw31]
      clear hb hw31 cN0 cN1 zN cM0 cM1 zM LA_30 LB_30 LC_30 GP_30 M_30 NP_30 N_30 TP_30 S_30 LP_30 L_30 RP_30 HB30
      refine (sameC p22_1 q22_1 p22_2 q22_2 p6_1 q6_1 p6_2 q6_2 U V _ (by have := HLM.out; omega) (by have := HLM.out; omega) NP_31.out.lies GP_31.out.lies).mono ?_
      rintro r w32 ⟨rfl, hb⟩
      have HB32 : Hid (Below w.heap.size w w32) := below_next HB31.out hb
      have sz32 : w31.heap.size ≤ w32.heap.size := hb.size
      have LA_32 : Hid (Lies w32 shCounter [.slice p1 u.length k1, .slice p2 d.length k2] (u, d, ())) := LA_31.out.next hb
      have LB_32 : Hid (Lies w32 shCounter [.slice q1 uu.length j1, .slice q2 dd.length j2] (uu, dd, ())) := LB_31.out.next hb
      have LC_32 : Hid (Lies w32 shCounter [.slice e1 cu.length f1, .slice e2 cd.length f2] (cu, cd, ())) := LC_31.out.next hb
      have GP_32 : Hid (Own w32 shCounter [.slice p6_1 U.length q6_1, .slice p6_2 V.length q6_2] (U, V, ()) (Btw w5.heap.size w6.heap.size)) := GP_31.out.next hb
      have M_32 : Hid (Bx w32 w6.heap.size [.slice p6_1 U.length q6_1, .slice p6_2 V.length q6_2]) := M_31.out.next hb
      have NP_32 : Hid (Own w32 shCounter [.slice p22_1 U.length q22_1, .slice p22_2 V.length q22_2] (U, V, ()) (Btw w21.heap.size w22.heap.size)) := NP_31.out.next hb
      have N_32 : Hid (Bx w32 w22.heap.size [.slice p22_1 U.length q22_1, .slice p22_2 V.length q22_2]) := N_31.out.next hb
      have TP_32 : Hid (Own w32 shCounter [.slice p24_1 U.length q24_1, .slice p24_2 V.length q24_2] (U, V, ()) (Btw w23.heap.size w24.heap.size)) := TP_31.out.next hb
      have S_32 : Hid (Bx w32 w24.heap.size [.slice p24_1 U.length q24_1, .slice p24_2 V.length q24_2]) := S_31.out.next hb
      have LP_32 : Hid (Own w32 shCounter [.slice p26_1 LU.length q26_1, .slice p26_2 LV.length q26_2] (LU, LV, ()) (Btw w25.heap.size w26.heap.size)) := LP_31.out.next hb
      have L_32 : Hid (Bx w32 w26.heap.size [.slice p26_1 LU.length q26_1, .slice p26_2 LV.length q26_2]) := L_31.out.next hb
      have RP_32 : Hid (Own w32 shCounter [.slice p30_1 LU.length q30_1, .slice p30_2 LV.length q30_2] (LU, LV, ()) (Btw w29.heap.size w30.heap.size)) := RP_31.out.next hb
      have R_32 : Hid (Bx w32 w30.heap.size [.slice p30_1 LU.length q30_1, .slice p30_2 LV.length q30_2]) := R_31.out.next hb
      clear hb LA_31 LB_31 LC_31 GP_31 M_31 NP_31 N_31 TP_31 S_31 LP_31 L_31 RP_31 R_31 HB31
      have cS0 := S_32.out.cell 0 rfl
      have cS1 := S_32.out.cell 1 rfl
      have zS := S_32.out.2
      have cM0 := M_32.out.cell 0 rfl
      have cM1 := M_32.out.cell 1 rfl
      have zM := M_32.out.2
      go_wp2_with fail
      refine (sameC p24_1 q24_1 p24_2 q24_2 p6_1 q6_1 p6_2 q6_2 U V _ (by have := HLM.out; omega) (by have := HLM.out; omega) TP_32.out.lies GP_32.out.lies).mono ?_
      rintro r w33 ⟨rfl, hb⟩
      have HB33 : Hid (Below w.heap.size w w33) := below_next HB32.out hb
      have sz33 : w32.heap.size ≤ w33.heap.size := hb.size
      have LA_33 : Hid (Lies w33 shCounter [.slice p1 u.length k1, .slice p2 d.length k2] (u, d, ())) := LA_32.out.next hb
      have LB_33 : Hid (Lies w33 shCounter [.slice q1 uu.length j1, .slice q2 dd.length j2] (uu, dd, ())) := LB_32.out.next hb
      have LC_33 : Hid (Lies w33 shCounter [.slice e1 cu.length f1, .slice e2 cd.length f2] (cu, cd, ())) := LC_32.out.next hb
      have GP_33 : Hid (Own w33 shCounter [.slice p6_1 U.length q6_1, .slice p6_2 V.length q6_2] (U, V, ()) (Btw w5.heap.size w6.heap.size)) := GP_32.out.next hb
      have M_33 : Hid (Bx w33 w6.heap.size [.slice p6_1 U.length q6_1, .slice p6_2 V.length q6_2]) := M_32.out.next hb
      have NP_33 : Hid (Own w33 shCounter [.slice p22_1 U.length q22_1, .slice p22_2 V.length q22_2] (U, V, ()) (Btw w21.heap.size w22.heap.size)) := NP_32.out.next hb
      have N_33 : Hid (Bx w33 w22.heap.size [.slice p22_1 U.length q22_1, .slice p22_2 V.length q22_2]) := N_32.out.next hb
      have TP_33 : Hid (Own w33 shCounter [.slice p24_1 U.length q24_1, .slice p24_2 V.length q24_2] (U, V, ()) (Btw w23.heap.size w24.heap.size)) := TP_32.out.next hb
      have S_33 : Hid (Bx w33 w24.heap.size [.slice p24_1 U.length q24_1, .slice p24_2 V.length q24_2]) := S_32.out.next hb
      have LP_33 : Hid (Own w33 shCounter [.slice p26_1 LU.length q26_1, .slice p26_2 LV.length q26_2] (LU, LV, ()) (Btw w25.heap.size w26.heap.size)) := LP_32.out.next hb
      have L_33 : Hid (Bx w33 w26.heap.size [.slice p26_1 LU.length q26_1, .slice p26_2 LV.length q26_2]) := L_32.out.next hb
      have RP_33 : Hid (Own w33 shCounter [.slice p30_1 LU.length q30_1, .slice p30_2 LV.length q30_2] (LU, LV, ()) (Btw w29.heap.size w30.heap.size)) := RP_32.out.next hb
      have R_33 : Hid (Bx w33 w30.heap.size [.slice p30_1 LU.length q30_1, .slice p30_2 LV.length q30_2]) := R_32.out.next hb
      clear hb cS0 cS1 zS cM0 cM1 zM LA_32 LB_32 LC_32 GP_32 M_32 NP_32 N_32 TP_32 S_32 LP_32 L_32 RP_32 R_32 HB32
      have cL0 := L_33.out.cell 0 rfl
      have cL1 := L_33.out.cell 1 rfl
      have zL := L_33.out.2
      have cR0 := R_33.out.cell 0 rfl
      have cR1 := R_33.out.cell 1 rfl
      have zR := R_33.out.2
      go_wp2_with fail
      refine (sameC p26_1 q26_1 p26_2 q26_2 p30_1 q30_1 p30_2 q30_2 LU LV _ (by have := HLL.out; omega) (by have := HLL.out; omega) LP_33.out.lies RP_33.out.lies).mono ?_
      rintro r w34 ⟨rfl, hb⟩
      have HB34 : Hid (Below w.heap.size w w34) := below_next HB33.out hb
      have sz34 : w33.heap.size ≤ w34.heap.size := hb.size
      have LA_34 : Hid (Lies w34 shCounter [.slice p1 u.length k1, .slice p2 d.length k2] (u, d, ())) := LA_33.out.next hb
      have LB_34 : Hid (Lies w34 shCounter [.slice q1 uu.length j1, .slice q2 dd.length j2] (uu, dd, ())) := LB_33.out.next hb
      have LC_34 : Hid (Lies w34 shCounter [.slice e1 cu.length f1, .slice e2 cd.length f2] (cu, cd, ())) := LC_33.out.next hb
      have GP_34 : Hid (Own w34 shCounter [.slice p6_1 U.length q6_1, .slice p6_2 V.length q6_2] (U, V, ()) (Btw w5.heap.size w6.heap.size)) := GP_33.out.next hb
      have M_34 : Hid (Bx w34 w6.heap.size [.slice p6_1 U.length q6_1, .slice p6_2 V.length q6_2]) := M_33.out.next hb
      have NP_34 : Hid (Own w34 shCounter [.slice p22_1 U.length q22_1, .slice p22_2 V.length q22_2] (U, V, ()) (Btw w21.heap.size w22.heap.size)) := NP_33.out.next hb
      have N_34 : Hid (Bx w34 w22.heap.size [.slice p22_1 U.length q22_1, .slice p22_2 V.length q22_2]) := N_33.out.next hb
      have TP_34 : Hid (Own w34 shCounter [.slice p24_1 U.length q24_1, .slice p24_2 V.length q24_2] (U, V, ()) (Btw w23.heap.size w24.heap.size)) := TP_33.out.next hb
      have S_34 : Hid (Bx w34 w24.heap.size [.slice p24_1 U.length q24_1, .slice p24_2 V.length q24_2]) := S_33.out.next hb
      have LP_34 : Hid (Own w34 shCounter [.slice p26_1 LU.length q26_1, .slice p26_2 LV.length q26_2] (LU, LV, ()) (Btw w25.heap.size w26.heap.size)) := LP_33.out.next hb
      have L_34 : Hid (Bx w34 w26.heap.size [.slice p26_1 LU.length q26_1, .slice p26_2 LV.length q26_2]) := L_33.out.next hb
      have RP_34 : Hid (Own w34 shCounter [.slice p30_1 LU.length q30_1, .slice p30_2 LV.length q30_2] (LU, LV, ()) (Btw w29.heap.size w30.heap.size)) := RP_33.out.next hb
      have R_34 : Hid (Bx w34 w30.heap.size [.slice p30_1 LU.length q30_1, .slice p30_2 LV.length q30_2]) := R_33.out.next hb
      clear hb cL0 cL1 zL cR0 cR1 zR LA_33 LB_33 LC_33 GP_33 M_33 NP_33 N_33 TP_33 S_33 LP_33 L_33 RP_33 R_33 HB33
      have HF := Hid.intro HB34.out
      go_wp2
      go_ret
      exact ⟨rfl, HF.out⟩


theorem own : ownKnob Try.prog.godebug = none := by kernel_rfl
theorem laidOut : laidOutB Try.prog = true := by kernel_rfl

set_option maxRecDepth 100000 in
theorem lifted (os : Os) (started : os.Started) (H : Type) (enc : TypeId × Value → H) :
    ReturnsInHanded {} Try.checked os 3 .any (Rows.fnCountersSpec.pre6 enc Try.prog Try.f3 Rows.fnCountersRow.domain false) (Rows.fnCountersSpec.post enc Try.prog Try.f3 false true false false) := by
  refine returnsInHanded_of_change (C := Try.checked) own started (by kernel_rfl) Try.func3
    (ChangeSpec.witness6 (enc := enc) (C := Try.checked) false ⟨#[], #[.slice none 0 0, .slice none 0 0], []⟩ 8 (by kernel_rfl) (by kernel_rfl) (by kernel_rfl) (by kernel_rfl)) ?_
  intro W base args ds gs before hval0 hW hcnd _
  have hval : ∀ (j : Nat) t v, Try.f3.params[j]? = some t → args[j]? = some v → Value.okWide Try.prog W .any base t v := hval0
  have hW' := hW
  obtain ⟨p, q, hA0, hV, rfl, hfz, hnd⟩ := hW
  have hA : DataW.TrodAll enc Try.prog W 0 (fun _ => true) true Try.f3.params.toList args.toList ds p := hA0
  rw [Try.params3] at hA hval
  obtain ⟨v0, vs0, d0, ds0, p0, q0, hargs, rfl, rfl, h0, r0⟩ := trodAll_cons hA
  obtain ⟨v1, vs1, d1, ds1, p1, q1, rfl, rfl, rfl, h1, r1⟩ := trodAll_cons r0
  obtain ⟨rfl, rfl, rfl⟩ := trodAll_nil r1
  obtain rfl : args = #[v0, v1] := by cases args; simp_all
  obtain ⟨rfl, rfl⟩ := trodVars_none hV
  have k0 := h0
  have lt0 : ∀ x ∈ p0, x.block < W.heap.size := by obtain ⟨m, hm⟩ := k0; exact DataW.trod_lt m _ _ _ hm
  obtain ⟨a0, len0, cap0, rfl⟩ := okWide_slice Try.underlying22 (hval 0 22 v0 rfl rfl)
  obtain ⟨n0, X0, s0, b0⟩ := open_bytes h0
  have k1 := h1
  have lt1 : ∀ x ∈ p1, x.block < W.heap.size := by obtain ⟨m, hm⟩ := k1; exact DataW.trod_lt m _ _ _ hm
  obtain ⟨a1, len1, cap1, rfl⟩ := okWide_slice Try.underlying22 (hval 1 22 v1 rfl rfl)
  obtain ⟨n1, X1, s1, b1⟩ := open_bytes h1
  clear hA0 hval0
  refine (walk (w := W) a0 len0 cap0 X0 n0 s0 b0 a1 len1 cap1 X1 n1 s1 b1).mono fun e W' ⟨he, bel⟩ => ?_
  subst he
  exact ⟨_, rfl, _, _, _, [], _, [], hW', trodAll_mk1 (shut_bool Try.underlying4 _), (trodAll_cons_mk (Below.trod laidOut (by kernel_rfl) (of_decide_eq_true (by kernel_rfl)) k0 bel lt0) (trodAll_cons_mk (Below.trod laidOut (by kernel_rfl) (of_decide_eq_true (by kernel_rfl)) k1 bel lt1) trodAll_mk0)), rfl, bel.frame _, fun h => by cases h⟩

set_option maxHeartbeats 40000000 in
theorem closed : joinedFacts Try.pinned.checked.prog 3 Try.f3 Rows.fnCountersSpec Rows.fnCountersRow = true := by
  unfold joinedFacts
  repeat' (first | (with_reducible refine both ?_ ?_) | (with_reducible exact may_enter') | (with_reducible refine lifts_eq ?_) | (with_reducible refine make_eq ?_) | as_aux_lemma => kernel_rfl)
theorem named : Try.pinned.checked.prog.funcNamed Rows.fnCountersRow.func = some 3 := by kernel_rfl
theorem over : Rows.fnCountersRow.holds Try.pinned (OpenSpec.ofChange Rows.fnCountersSpec) :=
  OpenClaim.holds_of_wide 3 Try.f3 rfl rfl rfl rfl rfl rfl rfl ⟨rfl, rfl, rfl, rfl, rfl⟩ rfl rfl rfl rfl rfl named Try.func3 closed
    (of_decide_eq_true (by as_aux_lemma => kernel_rfl)) (by unfold Func.isWrapper; first | (rw [if_pos (by decide +kernel)]; kernel_rfl) | (rw [if_neg (by decide +kernel)]; exact ⟨rfl, rfl⟩))
    (fun os started H enc _ => lifted os started H enc)

end Go.Proofs.Ytnglgndocmkbfaa.fCounters
namespace Go.Proofs.Ytnglgndocmkbfaa
theorem fCounters_holds : Rows.FnCountersSaid := fCounters.over
#print axioms fCounters_holds
end Go.Proofs.Ytnglgndocmkbfaa
