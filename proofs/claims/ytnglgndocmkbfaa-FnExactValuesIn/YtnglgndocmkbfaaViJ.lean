/- Bags: spec.ValuesIn; the law's form. -/
import Derived.Test.YtnglgndocmkbfaaBgE
import Derived.Test.YtnglgndocmkbfaaViI
namespace Go.Proofs.Ytnglgndocmkbfaa
open Go.RowKit
set_option linter.unusedVariables false
set_option linter.unusedSimpArgs false

set_option maxRecDepth 100000 in
set_option maxHeartbeats 4000000 in
theorem specValuesIn_n (cs : List Value) (A G : List AdV) (w : World) (hz : szD shBag (A, G, ()) ≤ 1073741824) (h : Lies w shBag cs (A, G, ())) :
    Calls Try.prog 57 #[.agg cs.toArray] w (LisP .str (vsA A G) (tf (goodB A G)) w) := by
  obtain ⟨a1, k1, a2, k2, rfl, h1, h2⟩ := lies_Bag h
  have HL : Hid (Lies w (.list shAdd) [.slice a1 A.length k1] A ∧ Lies w (.list shAdd) [.slice a2 G.length k2] G) := ⟨h1, h2⟩
  have HZ : Hid (szD shBag (A, G, ()) ≤ 1073741824) := hz
  clear h h1 h2 hz
  have HB0 : Hid (Bx (w.alloc (.cells #[.slice a1 A.length k1, .slice a2 G.length k2] 46)) w.heap.size [.slice a1 A.length k1, .slice a2 G.length k2] ∧ Below w.heap.size w (w.alloc (.cells #[.slice a1 A.length k1, .slice a2 G.length k2] 46))) := ⟨Bx.new w [_, _] _, Go.Joins.below_alloc1 _ _⟩
  go_enter Try.func57, Try.ntmps57
  go_wp2_with fail
  refine (specGoodBag_n [.slice a1 A.length k1, .slice a2 G.length k2] A G _ HZ.out (mk_Bag (HL.out.1.next HB0.out.2) (HL.out.2.next HB0.out.2))).mono ?_
  rintro r w1 ⟨rfl, hb⟩
  have HB1 : Hid (Bx w1 w.heap.size [.slice a1 A.length k1, .slice a2 G.length k2] ∧ Below w.heap.size w w1) := ⟨HB0.out.1.next hb, below_next HB0.out.2 hb⟩
  clear hb HB0
  have s0 := (HB1.out.1).cell 0 rfl; have s1 := (HB1.out.1).cell 1 rfl; have sz := (HB1.out.1).2
  by_cases c0 : goodB A G
  case neg =>
    have HN : Hid (vsA A G = [] ∧ tf (goodB A G) = false) := ⟨vsA_no c0, tf_no c0⟩
    rw [tf_no c0]
    clear c0
    go_wp2
    refine bodyPost_ret (v := .tuple #[.slice none 0 0, .bool false]) (by simp [results, Try.results57, go_sem]) rfl ?_
    rw [HN.out.1, HN.out.2]
    exact ⟨none, 0, rfl, Own.none (Nat.zero_le _), HB1.out.2⟩
  have HN : Hid (vsA A G = kyL (vsK A A.length) ∧ tf (goodB A G) = true ∧ A.length ≤ 40) := ⟨vsA_yes c0, tf_yes c0, c0.1.1.1⟩
  rw [tf_yes c0]
  clear c0
  go_wp2
  clear s0 s1 sz
  go_loopw [16, 4] (fun i v wr => ∃ k : Nat, k ≤ A.length ∧ i = .int .i64 k ∧ wr.ownsRow (w.heap.size + 1) 138 2 v (vsK A k).length (cellsC (vsK A k)) ∧ Bx wr w.heap.size [.slice a1 A.length k1, .slice a2 G.length k2] ∧ Below w.heap.size w wr) (fun i _ _ => A.length - (intOf i).toNat)
  case atStart => exact ⟨0, Nat.zero_le _, rfl, World.ownsRow_nil _ _ _ _, HB1.out⟩
  case round =>
    obtain ⟨k, hk, rfl, hO, hbx, hBr⟩ := hrel
    clear HB1
    by_cases hlt : k < A.length
    · have HO : Hid (wr.ownsRow (w.heap.size + 1) 138 2 u4 (vsK A k).length (cellsC (vsK A k)) ∧ Bx wr w.heap.size [.slice a1 A.length k1, .slice a2 G.length k2] ∧ Below w.heap.size w wr) := ⟨hO, hbx, hBr⟩
      have hlt' : (k : Int) < (A.length : Int) := by omega
      have hA40 := HN.out.2.2
      have HLE : Hid (Lies wr (.list shAdd) [.slice a1 A.length k1] A) := HL.out.1.next hBr
      obtain ⟨xg, xoff, xgo, xgs, xec, xel, xhec, xle⟩ := Lies.elem (HLE.out) hlt
      subst xgo
      rcases xX : A[k] with ⟨x0, x1, x2, ⟨⟩⟩
      rw [xX] at xle
      have xH : Hid (A[k] = (x0, x1, x2, ())) := xX
      clear xX
      obtain xev := lies_Add xle
      subst xev
      have xc0 : wr.cell? ⟨xg, xoff + k * 3, none⟩ = some (.string x0) := xhec 0 (by simp)
      have xc1 : wr.cell? ⟨xg, xoff + k * 3 + 1, none⟩ = some (.int .i64 x1) := xhec 1 (by simp)
      have xc2 : wr.cell? ⟨xg, xoff + k * 3 + 2, none⟩ = some (.int .i64 x2) := xhec 2 (by simp)
      clear xhec xel xle
      have HS2 : Hid (vsK A (k + 1) = putL (vsK A k) (vCell x0)) := Hid.intro (by rw [vsK_succ hlt, xH.out])
      have hLn : (vsK A k).length < 67108864 := by have := (vsK_inv hk).2.1; have := HN.out.2.2; omega
      obtain ⟨L, hLE⟩ : ∃ L, L = vsK A k := ⟨_, rfl⟩
      rw [← hLE] at HS2 HO hLn
      obtain ⟨w2, hw2⟩ : ∃ q, q = wr.alloc (.cells #[.string x0, .int .i64 x1, .int .i64 x2] 113) := ⟨_, rfl⟩
      have hb2 : Below wr.heap.size wr w2 := hw2 ▸ Go.Joins.below_alloc1 _ _
      have HB2 : Hid (w2.ownsRow (w.heap.size + 1) 138 2 u4 L.length (cellsC L) ∧ Bx w2 w.heap.size [.slice (some ⟨xg, xoff, none⟩) A.length k1, .slice a2 G.length k2] ∧ Below w.heap.size w w2) := ⟨ownsRow_next HO.out.1 hb2, HO.out.2.1.next hb2, below_next HO.out.2.2 hb2⟩
      have HB := Hid.intro (show Bx w2 wr.heap.size [.string x0, .int .i64 x1, .int .i64 x2] from hw2 ▸ Bx.new wr [_, _, _] _)
      have s0 := HB.out.cell 0 rfl
      have s1 := HB.out.cell 1 rfl
      have s2 := HB.out.cell 2 rfl
      have sz := HB.out.2
      clear hO hbx hBr HLE hLE HO hb2
      go_upto_region 8 with fail
      rw [← hw2]
      clear hw2 xc0 xc1 xc2
      go_wp2_with fail
      refine (l3Cells_new (w.heap.size + 1) w2.heap.size u4 L (vCell x0) w2 hLn (Nat.le_refl _) HB2.out.1).mono ?_
      rintro r w3 ⟨v3, rfl, ho, hbl⟩
      have hb := hbl w2.heap.size w2 (Below.refl _ _) (Nat.le_refl _) (Nat.le_refl _)
      have HB3 : Hid (w3.ownsRow (w.heap.size + 1) 138 2 v3 (putL L (vCell x0)).length (cellsC (putL L (vCell x0))) ∧ Bx w3 w.heap.size [.slice (some ⟨xg, xoff, none⟩) A.length k1, .slice a2 G.length k2] ∧ Below w.heap.size w w3) := ⟨ownsRow_lo ho HB2.out.2.1.2, HB2.out.2.1.next hb, below_next HB2.out.2.2 hb⟩
      clear ho hbl hb HB2 HB s0 s1 s2 sz
      go_wp2
      go_roundw
      case rel => exact ⟨k + 1, by omega, by go_num, by rw [HS2.out]; exact HB3.out.1, HB3.out.2⟩
      case measure => simp [intOf]; omega
    · have hkn : k = A.length := by omega
      rw [hkn] at hO
      have HC : Hid (vsA A G = kyL (vsK A A.length)) := HN.out.1
      have hLn : (vsK A A.length).length ≤ 40 := by have := (vsK_inv (A := A) (Nat.le_refl _)).2.1; have := HN.out.2.2; omega
      obtain ⟨L, hLE⟩ : ∃ L, L = vsK A A.length := ⟨_, rfl⟩
      rw [← hLE] at hO HC hLn
      obtain ⟨av, cv, hvE⟩ : ∃ a c, u4 = .slice a L.length c := by
        rcases Go.Joins.ownsRow_forms hO with ⟨h, h0⟩ | ⟨g, cap, hv⟩
        · exact ⟨none, 0, by rw [h, h0]⟩
        · exact ⟨_, _, hv⟩
      subst hvE
      have HO : Hid (wr.ownsRow (w.heap.size + 1) 138 2 (.slice av L.length cv) L.length (cellsC L) ∧ Below w.heap.size w wr) := ⟨hO, hBr⟩
      clear hO hbx hBr hLE hkn
      obtain ⟨wi, hwi⟩ : ∃ x, x = wr := ⟨_, rfl⟩
      subst hwi
      obtain ⟨i0, hi0, hz0, hz1, hz2⟩ := info_parts inf_text
      go_wp2
      go_loopw [28, 5] (fun i v wr => ∃ k : Nat, k ≤ L.length ∧ i = .int .i64 k ∧ OwS wr wi.heap.size v (kyL (L.take k)) ∧ Below wi.heap.size wi wr) (fun i _ _ => L.length - (intOf i).toNat)
      case atStart => exact ⟨0, Nat.zero_le _, rfl, OwS.nil _ _, Below.refl _ _⟩
      case round =>
        obtain ⟨k, hk, rfl, hS, hB⟩ := hrel
        by_cases hlt : k < L.length
        · have hlt' : (k : Int) < (L.length : Int) := by omega
          obtain ⟨g, cap, hv⟩ : ∃ g cap, Value.slice av L.length cv = .slice (some ⟨g, 0, none⟩) L.length cap := by
            rcases Go.Joins.ownsRow_forms HO.out.1 with ⟨_, h0⟩ | h
            · omega
            · exact h
          simp only [Value.slice.injEq, true_and] at hv
          obtain ⟨rfl, rfl⟩ := hv
          obtain ⟨c0, c1⟩ := cell_both (ownsRow_next HO.out.1 hB) hlt
          have HKT : Hid (kyL (L.take (k + 1)) = kyL (L.take k) ++ [(cV L k).f0]) := Hid.intro (kyL_take hlt)
          generalize (cV L k).f0 = t at *
          generalize (cV L k).f1 = t1 at *
          have hgz : g < wr.heap.size := Nat.lt_of_lt_of_le (HO.out.1.lt g rfl).2 hB.size
          obtain ⟨M, hM⟩ : ∃ M, M = kyL (L.take k) := ⟨_, rfl⟩
          have hMl : M.length ≤ 40 := by rw [hM, kyL_len, List.length_take]; omega
          rw [← hM] at hS HKT
          have hb2 : Below wr.heap.size wr ((wr.alloc (.cells #[.string t, .string t1] 138)).alloc (.cells #[.string t] 9)) := (Go.Joins.below_alloc1 _ _).trans ((Go.Joins.below_alloc1 _ _).mono (by simp))
          have HS : Hid (OwS wr wi.heap.size u5 M ∧ ((wr.alloc (.cells #[.string t, .string t1] 138)).alloc (.cells #[.string t] 9)).ownsRow wi.heap.size 9 1 u5 M.length (M.map Value.string) ∧ Below wi.heap.size wi ((wr.alloc (.cells #[.string t, .string t1] 138)).alloc (.cells #[.string t] 9))) := ⟨hS, hS.next hb2, below_next hB hb2⟩
          have HNW : Hid (∀ j u, [Value.string t][j]? = some u → ((wr.alloc (.cells #[.string t, .string t1] 138)).alloc (.cells #[.string t] 9)).cell? ((⟨wr.heap.size + 1, 0, none⟩ : Addr).add j) = some u) := by
            have hnw := cells_new (wr.alloc (.cells #[.string t, .string t1] 138)) [.string t] 9
            rw [World.size_alloc] at hnw
            exact hnw
          have hwz : wi.heap.size ≤ wr.heap.size := hB.size
          clear hS hM hB hb2
          go_wp2_with (first | (at_builtin; refine wpList_append_own_at _ rfl (.tmp 32) (.tmp 35) 60 rfl (wi.heap.size) 9 i0 (.string ⟨#[]⟩) 1 16 Try.underlying60 hi0 hz0 hz1 hz2 rfl (by decide) u5 M.length (M.map Value.string) rfl (HS.out.2.1) ⟨wr.heap.size + 1, 0, none⟩ 1 1 [.string t] rfl rfl (HNW.out) (by intro u hu; simp at hu; subst hu; rfl) (by unfold maxLen; omega) (by omega) (by simp <;> omega) ?_; intro v9 w9 hown9 hgrow9 hnil9 hwh9; have HF : Hid (OwS w9 wi.heap.size v9 (M ++ [t]) ∧ Below wi.heap.size wi w9) := ⟨HS.out.1.snoc (W0 := wr) hown9, HS.out.2.2.grown hgrow9 HS.out.2.2.size (fun j hj => (HS.out.2.1.lt j hj).1)⟩; clear hown9 hgrow9 hnil9 hwh9))
          go_roundw
          case rel => exact ⟨k + 1, by omega, by go_num, by rw [HKT.out]; exact HF.out.1, HF.out.2⟩
          case measure => simp [intOf]; omega
        · have hkn : k = L.length := by omega
          have HF : Hid (∃ a cap, u5 = .slice a (vsA A G).length cap ∧ Own wr (.list .str) [.slice a (vsA A G).length cap] (vsA A G) (Btw w.heap.size wr.heap.size) ∧ Below w.heap.size w wr) := by
            have hO2 := hS
            rw [hkn, List.take_length, ← HC.out] at hO2
            obtain ⟨a, cap, e, _, ho⟩ := (hO2.app.lo HO.out.2.size).own
            exact ⟨a, cap, e, ho, HO.out.2.trans (hB.mono HO.out.2.size)⟩
          obtain ⟨a, cap, e, ho⟩ := HF.out
          have HO2 := Hid.intro ho
          subst e
          clear hS hB ho HF hkn
          go_wp2
          refine bodyPost_ret (v := .tuple #[.slice a (vsA A G).length cap, .bool true]) (by simp [results, Try.results57, go_sem]) rfl ?_
          rw [HN.out.2.1]
          exact ⟨a, cap, rfl, HO2.out⟩
theorem sz_strs : ∀ (l : List (Sh.T .str)) (m : Nat), (∀ t ∈ l, t.size ≤ m) → szD (.list .str) l ≤ l.length * (m + 1)
  | [], m, _ => Nat.zero_le _
  | t :: l, m, h => by
    have ih := sz_strs l m (fun q hq => h q (List.mem_cons_of_mem _ hq))
    have h1 : szD (.list .str) (t :: l) = l.length + 1 + (t.size + (l.map (szD .str)).sum) := rfl
    have h2 : szD (.list .str) l = l.length + (l.map (szD .str)).sum := rfl
    have h3 := h t List.mem_cons_self
    have h4 : (l.length + 1) * (m + 1) = l.length * (m + 1) + (m + 1) := Nat.succ_mul _ _
    rw [h1, List.length_cons, h4]
    omega
theorem val_sz {v : ByteArray} (h : valOk v = true) : v.size ≤ 20 := by
  unfold valOk at h
  rw [Bool.and_eq_true, decide_eq_true_eq] at h
  exact h.1
theorem sz_vsA (A G : List AdV) : szD (.list .str) (vsA A G) ≤ 1073741824 := by
  by_cases h : goodB A G
  · rw [vsA_yes h]
    obtain ⟨h1, h2, h3⟩ := vsK_inv (A := A) (k := A.length) (Nat.le_refl _)
    have hz := sz_strs (kyL (vsK A A.length)) 20 (fun t ht => by
      obtain ⟨c, hc, rfl⟩ := List.mem_map.1 ht
      obtain ⟨x, hx, e⟩ := (h3 c.f0).1 ⟨c, hc, rfl⟩
      rw [List.take_length] at hx
      have q := ads_all h.1.1.2 x hx
      unfold addP addB at q
      rw [Bool.and_eq_true] at q
      rw [← e]; exact val_sz q.1)
    have h5 : A.length ≤ 40 := h.1.1.1
    rw [kyL_len] at hz
    have h4 : (vsK A A.length).length * (20 + 1) ≤ 40 * 21 := Nat.mul_le_mul (by omega) (by omega)
    omega
  · rw [vsA_no h]; exact Nat.zero_le _
theorem cnt_strs {l : List (Sh.T .str)} (h : szD (.list .str) l ≤ 1073741824) : cntD (.list .str) l ≤ 100000000000 := by
  have h2 := cnt_le (.list .str) l ⟨by decide, trivial⟩
  have h3 : Sh.c (.list .str) = 1 := rfl
  omega
theorem small_bag : Small shBag := ⟨⟨by decide, trivial, trivial, trivial, trivial⟩, ⟨by decide, trivial, trivial, trivial, trivial⟩, trivial⟩
theorem cnt_bag {A G : List AdV} (h : szD shBag (A, G, ()) ≤ 1073741824) : cntT shBag (A, G, ()) ≤ 100000000000 := by
  have h1 := cntT_le shBag (A, G, ())
  have h2 := cnt_le shBag (A, G, ()) small_bag
  have h3 : shBag.c = 2 := rfl
  omega
theorem valuesIn_l (cs : List Value) (A G : List AdV) (w : World) (LL : List (Sh.T .str)) (z : Bool) (hA : vsA A G = LL ∧ tf (goodB A G) = z) (hz : szD shBag (A, G, ()) ≤ 1073741824) (h : Lies w shBag cs (A, G, ())) :
    Calls Try.prog 38 #[.agg cs.toArray] w (LisP .str LL z w) := by
  rw [← hA.1, ← hA.2]; exact valuesIn_n cs A G w hz h
theorem specValuesIn_l (cs : List Value) (A G : List AdV) (w : World) (LL : List (Sh.T .str)) (z : Bool) (hA : vsA A G = LL ∧ tf (goodB A G) = z) (hz : szD shBag (A, G, ()) ≤ 1073741824) (h : Lies w shBag cs (A, G, ())) :
    Calls Try.prog 57 #[.agg cs.toArray] w (LisP .str LL z w) := by
  rw [← hA.1, ← hA.2]; exact specValuesIn_n cs A G w hz h
end Go.Proofs.Ytnglgndocmkbfaa
