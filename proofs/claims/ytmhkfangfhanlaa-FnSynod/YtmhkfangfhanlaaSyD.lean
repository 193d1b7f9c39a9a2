/- Synods: what is chosen, on the specification's side. -/
import Derived.Test.YtmhkfangfhanlaaSyC
namespace Go.Proofs.Ytmhkfangfhanlaa
open Go.RowKit
set_option linter.unusedVariables false
set_option linter.unusedSimpArgs false

theorem ownsRow_lo {w : World} {lo lo' : Nat} {e : TypeId} {size : Nat} {v : Value} {n : Nat} {xs : List Value} (h : w.ownsRow lo e size v n xs) (hl : lo' ≤ lo) : w.ownsRow lo' e size v n xs := by
  obtain ⟨h0, h1⟩ := h
  refine ⟨h0, ?_⟩
  rcases h1 with h1 | ⟨g, cap, cur, hv, hgb, r⟩
  · exact Or.inl h1
  · exact Or.inr ⟨g, cap, cur, hv, Nat.le_trans hl hgb, r⟩
theorem cell_both {w : World} {base g cap : Nat} {e : TypeId} {L : List CellV} {p : Nat} (h : w.ownsRow base e 2 (.slice (some ⟨g, 0, none⟩) L.length cap) L.length (cellsC L)) (hp : p < L.length) : w.cell? ⟨g, p * 2, none⟩ = some (.string (cV L p).f0) ∧ w.cell? ⟨g, p * 2 + 1, none⟩ = some (.string (cV L p).f1) := by
  have h2 : (cellsC (L.take p)).length = p * 2 := by rw [cellsC_len, List.length_take, Nat.min_eq_left (by omega)]
  have e : cellsC L = cellsC (L.take p) ++ ([.string (cV L p).f0, .string (cV L p).f1] ++ cellsC (L.drop (p + 1))) := by
    conv => lhs; rw [split_at hp]
    rw [cellsC_append, cellsC_cons]
  refine ⟨?_, ?_⟩
  · rw [h.cellAt _ (by omega), e, List.getElem?_append_right (by omega), h2, Nat.sub_self]; rfl
  · rw [h.cellAt _ (by omega), e, List.getElem?_append_right (by omega), h2, show p * 2 + 1 - p * 2 = 1 by omega]; rfl
theorem OwS.snoc {W0 W W' : World} {lo : Nat} {v v' : Value} {M : List ByteArray} {t : ByteArray} (h : OwS W lo v M) (h2 : W'.ownsRow lo 9 1 v' (M.length + 1) (M.map Value.string ++ [.string t])) : OwS W' lo v' (M ++ [t]) := by
  unfold OwS
  rw [List.length_append, List.map_append]; exact h2
theorem kyL_take {L : List CellV} {k : Nat} (h : k < L.length) : kyL (L.take (k + 1)) = kyL (L.take k) ++ [(cV L k).f0] := by
  unfold kyL; rw [List.take_succ_eq_append_getElem h, List.map_append, cV_at h]; rfl

set_option maxRecDepth 100000 in
set_option maxHeartbeats 4000000 in
theorem specChosenIn_n (cs : List Value) (ac : List (Sh.T shAcceptor)) (ps : List (Sh.T shProposer)) (w : World) (hz : szD shSynod (ac, ps, ()) ≤ 1073741824) (h : Lies w shSynod cs (ac, ps, ())) :
    Calls Try.prog 43 #[.agg cs.toArray] w (LisP .str (chA ac ps) (tf (goodS ac ps)) w) := by
  obtain ⟨a1, k1, a2, k2, rfl, h1, h2⟩ := lies_Synod h
  have HL : Hid (Lies w (.list shAcceptor) [.slice a1 ac.length k1] ac ∧ Lies w (.list shProposer) [.slice a2 ps.length k2] ps) := ⟨h1, h2⟩
  have HZ : Hid (szD shSynod (ac, ps, ()) ≤ 1073741824) := hz
  have hno := (syn_sizes hz).2.2.2
  clear h h1 h2 hz
  have HB0 : Hid (Bx (w.alloc (.cells #[.slice a1 ac.length k1, .slice a2 ps.length k2] 30)) w.heap.size [.slice a1 ac.length k1, .slice a2 ps.length k2] ∧ Below w.heap.size w (w.alloc (.cells #[.slice a1 ac.length k1, .slice a2 ps.length k2] 30))) := ⟨Bx.new w [_, _] _, Go.Joins.below_alloc1 _ _⟩
  go_enter Try.func43, Try.ntmps43
  go_wp2_with fail
  refine (specGoodSynod_n [.slice a1 ac.length k1, .slice a2 ps.length k2] ac ps _ HZ.out (mk_Synod (HL.out.1.next HB0.out.2) (HL.out.2.next HB0.out.2))).mono ?_
  rintro r w1 ⟨rfl, hb⟩
  have HB1 : Hid (Bx w1 w.heap.size [.slice a1 ac.length k1, .slice a2 ps.length k2] ∧ Below w.heap.size w w1) := ⟨HB0.out.1.next hb, below_next HB0.out.2 hb⟩
  clear hb HB0
  have s0 := (HB1.out.1).cell 0 rfl; have s1 := (HB1.out.1).cell 1 rfl; have sz := (HB1.out.1).2
  by_cases c0 : goodS ac ps
  case neg =>
    have HN : Hid (chA ac ps = [] ∧ tf (goodS ac ps) = false) := ⟨by unfold chA; rw [tf_no c0]; rfl, tf_no c0⟩
    rw [tf_no c0]
    clear c0
    go_wp2
    refine bodyPost_ret (v := .tuple #[.slice none 0 0, .bool false]) (by simp [results, Try.results43, go_sem]) rfl ?_
    rw [HN.out.1, HN.out.2]
    exact ⟨none, 0, rfl, Own.none (Nat.zero_le _), HB1.out.2⟩
  have HN : Hid (chA ac ps = kyL (chK ac.length ps ps.length) ∧ tf (goodS ac ps) = true ∧ ac.length ≤ 12 ∧ ps.length ≤ 8) := ⟨by unfold chA; rw [tf_yes c0]; rfl, tf_yes c0, c0.1.2, c0.2.1.2⟩
  have hac : ac.length ≤ 12 := c0.1.2
  rw [tf_yes c0]
  clear c0
  go_wp2
  clear s0 s1 sz
  go_loopw [16, 4] (fun i v wr => ∃ k : Nat, k ≤ ps.length ∧ i = .int .i64 k ∧ wr.ownsRow (w.heap.size + 1) 119 2 v (chK ac.length ps k).length (cellsC (chK ac.length ps k)) ∧ Bx wr w.heap.size [.slice a1 ac.length k1, .slice a2 ps.length k2] ∧ Below w.heap.size w wr) (fun i _ _ => ps.length - (intOf i).toNat)
  case atStart => exact ⟨0, Nat.zero_le _, rfl, World.ownsRow_nil _ _ _ _, HB1.out⟩
  case round =>
    obtain ⟨k, hk, rfl, hO, hbx, hBr⟩ := hrel
    clear HB1
    have s0 := (hbx).cell 0 rfl; have s1 := (hbx).cell 1 rfl; have sz := (hbx).2
    by_cases hlt : k < ps.length
    · have HO : Hid (wr.ownsRow (w.heap.size + 1) 119 2 u4 (chK ac.length ps k).length (cellsC (chK ac.length ps k)) ∧ Bx wr w.heap.size [.slice a1 ac.length k1, .slice a2 ps.length k2] ∧ Below w.heap.size w wr) := ⟨hO, hbx, hBr⟩
      have hlt' : (k : Int) < (ps.length : Int) := by omega
      have HLE : Hid (Lies wr (.list shProposer) [.slice a2 ps.length k2] ps) := HL.out.2.next hBr
      obtain ⟨xg, xoff, xgo, xgs, xec, xel, xhec, xle⟩ := Lies.elem (HLE.out) hlt
      subst xgo
      rcases xX : ps[k] with ⟨x0, x1, x2, x3, x4, ⟨⟩⟩
      rw [xX] at xle
      have xH : Hid (ps[k] = (x0, x1, x2, x3, x4, ())) := xX
      clear xX
      obtain ⟨xa1, xk1, xa2, xk2, xev, xq1, xq2⟩ := lies_Proposer xle
      subst xev
      have xc0 : wr.cell? ⟨xg, xoff + k * 5, none⟩ = some (.string x0) := xhec 0 (by simp)
      have xc1 : wr.cell? ⟨xg, xoff + k * 5 + 1, none⟩ = some (.slice xa1 x1.length xk1) := xhec 1 (by simp)
      have xc2 : wr.cell? ⟨xg, xoff + k * 5 + 2, none⟩ = some (.bool x2) := xhec 2 (by simp)
      have xc3 : wr.cell? ⟨xg, xoff + k * 5 + 3, none⟩ = some (.string x3) := xhec 3 (by simp)
      have xc4 : wr.cell? ⟨xg, xoff + k * 5 + 4, none⟩ = some (.slice xa2 x4.length xk2) := xhec 4 (by simp)
      clear xhec xel xle
      have hV := (syn_sizes HZ.out).2.1 ps[k] (List.getElem_mem hlt)
      rw [xH.out] at hV
      have hn4 : x4.length ≤ 1073741824 := hV.2.2.2
      obtain ⟨i1, i2, i3⟩ := chK_inv (nc := (ac.length : Int)) (ps := ps) (k := k) hk
      have HSU : Hid (chK ac.length ps (k + 1) = if chB ac.length x4.length then putL (chK ac.length ps k) (vCell x3) else chK ac.length ps k) := Hid.intro (by rw [chK_succ hlt, xH.out]; rfl)
      obtain ⟨L, hLE⟩ : ∃ L, L = chK (ac.length : Int) ps k := ⟨_, rfl⟩
      rw [← hLE] at i1 i2 i3 HSU HO
      have hLn : L.length < 67108864 := by have := HN.out.2.2.2; omega
      obtain ⟨w2, hw2⟩ : ∃ x, x = wr.alloc (.cells #[.string x0, .slice xa1 x1.length xk1, .bool x2, .string x3, .slice xa2 x4.length xk2] 43) := ⟨_, rfl⟩
      have hb2 : Below wr.heap.size wr w2 := hw2 ▸ Go.Joins.below_alloc1 _ _
      have HB2 : Hid (w2.ownsRow (w.heap.size + 1) 119 2 u4 L.length (cellsC L) ∧ Bx w2 w.heap.size [.slice a1 ac.length k1, .slice (some ⟨xg, xoff, none⟩) ps.length k2] ∧ Below w.heap.size w w2) := ⟨ownsRow_next HO.out.1 hb2, HO.out.2.1.next hb2, below_next HO.out.2.2 hb2⟩
      clear hO hbx hBr HLE hV i1 i2 i3 hLE HO xq1 xq2 hb2
      by_cases cb : (ac.length : Int) < 2 * (x4.length : Int)
      case neg =>
        have HS2 : Hid (chK ac.length ps (k + 1) = L) := Hid.intro (by rw [HSU.out]; unfold chB; rw [decide_eq_false cb]; rfl)
        clear HSU
        go_wp2
        rw [← hw2]
        clear hw2
        go_roundw
        case rel => exact ⟨k + 1, by omega, by go_num, by rw [HS2.out]; exact HB2.out.1, HB2.out.2⟩
        case measure => simp [intOf]; omega
      have HS2 : Hid (chK ac.length ps (k + 1) = putL L (vCell x3)) := Hid.intro (by rw [HSU.out]; unfold chB; rw [decide_eq_true cb]; rfl)
      clear HSU
      go_wp2_with fail
      rw [← hw2]
      clear hw2 s0 s1 sz xc0 xc1 xc2 xc3 xc4
      refine (l3Cells_new (w.heap.size + 1) w2.heap.size u4 L (vCell x3) w2 hLn (Nat.le_refl _) HB2.out.1).mono ?_
      rintro r w3 ⟨v3, rfl, ho, hbl⟩
      have hb := hbl w2.heap.size w2 (Below.refl _ _) (Nat.le_refl _) (Nat.le_refl _)
      have HB3 : Hid (w3.ownsRow (w.heap.size + 1) 119 2 v3 (putL L (vCell x3)).length (cellsC (putL L (vCell x3))) ∧ Bx w3 w.heap.size [.slice a1 ac.length k1, .slice (some ⟨xg, xoff, none⟩) ps.length k2] ∧ Below w.heap.size w w3) := ⟨ownsRow_lo ho HB2.out.2.1.2, HB2.out.2.1.next hb, below_next HB2.out.2.2 hb⟩
      clear ho hbl hb HB2
      go_wp2
      go_roundw
      case rel => exact ⟨k + 1, by omega, by go_num, by rw [HS2.out]; exact HB3.out.1, HB3.out.2⟩
      case measure => simp [intOf]; omega
    · have hkn : k = ps.length := by omega
      obtain ⟨i1, i2, i3⟩ := chK_inv (nc := (ac.length : Int)) (ps := ps) (k := k) hk
      rw [hkn] at hO i1 i2 i3
      have HC : Hid (chA ac ps = kyL (chK ac.length ps ps.length)) := HN.out.1
      obtain ⟨L, hLE⟩ : ∃ L, L = chK (ac.length : Int) ps ps.length := ⟨_, rfl⟩
      rw [← hLE] at hO i3 HC
      have hLn : L.length ≤ 8 := by have := HN.out.2.2.2; omega
      obtain ⟨av, cv, hvE⟩ : ∃ a c, u4 = .slice a L.length c := by
        rcases Go.Joins.ownsRow_forms hO with ⟨h, h0⟩ | ⟨g, cap, hv⟩
        · exact ⟨none, 0, by rw [h, h0]⟩
        · exact ⟨_, _, hv⟩
      subst hvE
      have HO : Hid (wr.ownsRow (w.heap.size + 1) 119 2 (.slice av L.length cv) L.length (cellsC L) ∧ Below w.heap.size w wr) := ⟨hO, hBr⟩
      clear hO hbx hBr i1 i2 i3 hLE hkn
      obtain ⟨wi, hwi⟩ : ∃ x, x = wr := ⟨_, rfl⟩
      subst hwi
      obtain ⟨i0, hi0, hz0, hz1, hz2⟩ := info_parts inf_string
      go_wp2
      clear s0 s1 sz
      go_loopw [36, 5] (fun i v wr => ∃ k : Nat, k ≤ L.length ∧ i = .int .i64 k ∧ OwS wr wi.heap.size v (kyL (L.take k)) ∧ Below wi.heap.size wi wr) (fun i _ _ => L.length - (intOf i).toNat)
      case atStart => exact ⟨0, Nat.zero_le _, rfl, OwS.nil _ _, Below.refl _ _⟩
      case round =>
        obtain ⟨k, hk, rfl, hS, hB⟩ := hrel
        by_cases hlt : k < L.length
        · have hlt' : (k : Int) < (L.length : Int) := by omega
          obtain ⟨g, cap, hv⟩ : ∃ g cap, Value.slice av L.length cv = .slice (some ⟨g, 0, none⟩) L.length cap := by
            rcases Go.Joins.ownsRow_forms HO.out.1 with ⟨_, h0⟩ | h
            · omega
            · exact h
          simp only [Value.slice.injEq, true_and] at hv
          obtain ⟨rfl, rfl⟩ := hv
          obtain ⟨c0, c1⟩ := cell_both (ownsRow_next HO.out.1 hB) hlt
          have HKT : Hid (kyL (L.take (k + 1)) = kyL (L.take k) ++ [(cV L k).f0]) := Hid.intro (kyL_take hlt)
          generalize (cV L k).f0 = t at *
          generalize (cV L k).f1 = t1 at *
          have hgz : g < wr.heap.size := Nat.lt_of_lt_of_le (HO.out.1.lt g rfl).2 hB.size
          obtain ⟨M, hM⟩ : ∃ M, M = kyL (L.take k) := ⟨_, rfl⟩
          have hMl : M.length ≤ 8 := by rw [hM, kyL_len, List.length_take]; omega
          rw [← hM] at hS HKT
          have hb2 : Below wr.heap.size wr ((wr.alloc (.cells #[.string t, .string t1] 119)).alloc (.cells #[.string t] 9)) := (Go.Joins.below_alloc1 _ _).trans ((Go.Joins.below_alloc1 _ _).mono (by simp))
          have HS : Hid (OwS wr wi.heap.size u5 M ∧ ((wr.alloc (.cells #[.string t, .string t1] 119)).alloc (.cells #[.string t] 9)).ownsRow wi.heap.size 9 1 u5 M.length (M.map Value.string) ∧ Below wi.heap.size wi ((wr.alloc (.cells #[.string t, .string t1] 119)).alloc (.cells #[.string t] 9))) := ⟨hS, hS.next hb2, below_next hB hb2⟩
          have HNW : Hid (∀ j u, [Value.string t][j]? = some u → ((wr.alloc (.cells #[.string t, .string t1] 119)).alloc (.cells #[.string t] 9)).cell? ((⟨wr.heap.size + 1, 0, none⟩ : Addr).add j) = some u) := by
            have hnw := cells_new (wr.alloc (.cells #[.string t, .string t1] 119)) [.string t] 9
            rw [World.size_alloc] at hnw
            exact hnw
          have hwz : wi.heap.size ≤ wr.heap.size := hB.size
          clear hS hM hB hb2
          go_wp2_with (first | (at_builtin; refine wpList_append_own_at _ rfl (.tmp 40) (.tmp 43) 23 rfl (wi.heap.size) 9 i0 (.string ⟨#[]⟩) 1 16 Try.underlying23 hi0 hz0 hz1 hz2 rfl (by decide) u5 M.length (M.map Value.string) rfl (HS.out.2.1) ⟨wr.heap.size + 1, 0, none⟩ 1 1 [.string t] rfl rfl (HNW.out) (by intro u hu; simp at hu; subst hu; rfl) (by unfold maxLen; omega) (by omega) (by simp <;> omega) ?_; intro v9 w9 hown9 hgrow9 hnil9 hwh9; have HF : Hid (OwS w9 wi.heap.size v9 (M ++ [t]) ∧ Below wi.heap.size wi w9) := ⟨HS.out.1.snoc (W0 := wr) hown9, HS.out.2.2.grown hgrow9 HS.out.2.2.size (fun j hj => (HS.out.2.1.lt j hj).1)⟩; clear hown9 hgrow9 hnil9 hwh9))
          go_roundw
          case rel => exact ⟨k + 1, by omega, by go_num, by rw [HKT.out]; exact HF.out.1, HF.out.2⟩
          case measure => simp [intOf]; omega
        · have hkn : k = L.length := by omega
          have HF : Hid (∃ a cap, u5 = .slice a (chA ac ps).length cap ∧ Own wr (.list .str) [.slice a (chA ac ps).length cap] (chA ac ps) (Btw w.heap.size wr.heap.size) ∧ Below w.heap.size w wr) := by
            have hO2 := hS
            rw [hkn, List.take_length, ← HC.out] at hO2
            obtain ⟨a, cap, e, _, ho⟩ := (hO2.app.lo HO.out.2.size).own
            exact ⟨a, cap, e, ho, HO.out.2.trans (hB.mono HO.out.2.size)⟩
          obtain ⟨a, cap, e, ho⟩ := HF.out
          have HO2 := Hid.intro ho
          subst e
          clear hS hB ho HF hkn
          go_wp2
          refine bodyPost_ret (v := .tuple #[.slice a (chA ac ps).length cap, .bool true]) (by simp [results, Try.results43, go_sem]) rfl ?_
          rw [HN.out.2.1]
          exact ⟨a, cap, rfl, HO2.out⟩
end Go.Proofs.Ytmhkfangfhanlaa
