/- spec.WaitsFor: who waits for whom, sorted, each once. -/
import Derived.Test.YtnapgnkhajkbkaaL4P
import Derived.Test.YtnapgnkhajkbkaaGlS
import Derived.ScopeJumps
namespace Go.Proofs.Ytnapgnkhajkbkaa
open Go.RowKit
set_option linter.unusedVariables false

/-- v holds sorted pairs, those of M, at most b of them. -/
def WfX (w W : World) (v : Value) (M : Int × Int → Prop) (b : Nat) : Prop := ∃ R : List (Int × Int), W.ownsRow w.heap.size 35 2 v R.length (cellsP R) ∧ SortP R ∧ (∀ z, z ∈ R ↔ M z) ∧ R.length ≤ b ∧ Below w.heap.size w W
theorem WfX.next {w W W' : World} {v : Value} {M : Int × Int → Prop} {b : Nat} (h : WfX w W v M b) (hb : Below W.heap.size W W') : WfX w W' v M b := by
  obtain ⟨R, h1, h2, h3, h4, h5⟩ := h
  exact ⟨R, own_keep h1 hb, h2, h3, h4, below_next h5 hb⟩
theorem WfX.congr {w W : World} {v : Value} {M M' : Int × Int → Prop} {b b' : Nat} (h : WfX w W v M b) (e : ∀ z, M z ↔ M' z) (hb : b ≤ b') : WfX w W v M' b' := by
  obtain ⟨R, h1, h2, h3, h4, h5⟩ := h
  exact ⟨R, h1, h2, fun z => (h3 z).trans (e z), by omega, h5⟩
theorem WfX.below {w W : World} {v : Value} {M : Int × Int → Prop} {b : Nat} (h : WfX w W v M b) : Below w.heap.size w W := by
  obtain ⟨R, h1, h2, h3, h4, h5⟩ := h
  exact h5
theorem WfX.ins {w W : World} {v : Value} {M : Int × Int → Prop} {b : Nat} {x y : Int} (h : WfX w W v M b) (hb : b < 67108864) :
    Calls Try.prog 84 #[v, .agg #[.int .i64 x, .int .i64 y]] W fun r W' => ∃ v', r = .returned v' ∧ WfX w W' v' (fun z => M z ∨ z = (x, y)) (b + 1) ∧ Below W.heap.size W W' := by
  obtain ⟨R, h1, h2, h3, h4, h5⟩ := h
  refine (l4Pair_any w.heap.size v R x y W (by omega) h5.size h2 h1).mono ?_
  rintro r W' ⟨v', R', rfl, g1, g2, g3, g4, g5⟩
  exact ⟨v', rfl, ⟨R', g1, g2, fun z => by rw [g3 z, h3 z], by omega, below_next h5 g5⟩, g5⟩
/-- The answer of both sides: the sorted list of the pairs of good locks. -/
def WaitPost (V : Nat → LkV) (n : Nat) (w : World) (r : Ending) (w' : World) : Prop :=
  ∃ R : List (Int × Int), SortP R ∧ (∀ z, z ∈ R ↔ (goodL V n = true ∧ inW V n z)) ∧ R.length ≤ 1048576 ∧ PairPost R (goodL V n) w r w'
theorem WfX.post {V : Nat → LkV} {n : Nat} {w W : World} {v : Value} (h : WfX w W v (inW V n) (8064 * n)) (hg : goodL V n = true) (hn : n ≤ 20) : ∃ a k cap, v = .slice a k cap ∧ WaitPost V n w (.returned (.tuple #[.slice a k cap, .bool true])) W := by
  obtain ⟨R, h1, h2, h3, h4, h5⟩ := h
  obtain ⟨a, cap, rfl, hp⟩ := PRow.of h1
  exact ⟨a, R.length, cap, rfl, R, h2, fun z => by rw [h3 z, hg]; simp, by omega, by rw [hg]; exact ⟨⟨a, cap, rfl, hp⟩, h5⟩⟩
theorem wait_no {V : Nat → LkV} {n : Nat} {w w' : World} (hg : goodL V n = false) (hb : Below w.heap.size w w') : WaitPost V n w (.returned (.tuple #[.slice none 0 0, .bool false])) w' :=
  ⟨[], List.Pairwise.nil, fun z => by simp [hg], by simp, pair_no rfl hg hb⟩

set_option maxRecDepth 100000 in
set_option maxHeartbeats 8000000 in
theorem specWaitsFor_any (a : Option Addr) (n cap : Nat) (V : Nat → LkV) (A : Nat → LkA) (w : World) (hn : n ≤ 1048576) (hz : ∀ i, i < n → LkOk (V i)) (hs : LkS w a n V A) :
    Calls Try.prog 34 #[.slice a n cap] w (WaitPost V n w) := by
  have HS : Hid (LkS w a n V A ∧ ∀ i, i < n → LkOk (V i)) := ⟨hs, hz⟩
  clear hs hz
  go_enter Try.func34, Try.ntmps34
  go_wp2_with fail
  refine (specGoodLocks_any _ _ _ V A _ hn HS.out.2 HS.out.1).mono ?_
  rintro r w1 ⟨rfl, hb1⟩
  have HB1 : Hid (Below w.heap.size w w1) := hb1
  clear hb1
  cases hg : goodL V n
  · have HG0 : Hid (goodL V n = false) := hg
    clear hg
    go_wp2
    go_ret2
    exact wait_no HG0.out HB1.out
  have HG : Hid (goodL V n = true) := hg
  have HGP : Hid (∀ i, i < n → (V i).w.n ≤ 8 ∧ (V i).h.n ≤ 1000) := by show ∀ i, i < n → _; exact fun i hi => ⟨((good_parts hg).2 i hi).1, ((good_parts hg).2 i hi).2.1⟩
  have hn20 : n ≤ 20 := (good_parts hg).1
  clear hg
  go_wp2
  go_loopw [18, 4] (fun x v wr => ∃ i : Nat, i ≤ n ∧ x = .int .i64 i ∧ WfX w wr v (inW V i) (8064 * i)) (fun x _ _ => n - (intOf x).toNat)
  case atStart => exact ⟨0, Nat.zero_le _, rfl, [], World.ownsRow_nil _ _ _ _, List.Pairwise.nil, fun z => by simp [inW_zero], by simp, HB1.out⟩
  case round =>
    obtain ⟨i, hi, rfl, hW⟩ := hrel
    obtain ⟨wo, hwo⟩ : ∃ x, x = wr := ⟨wr, rfl⟩
    subst hwo
    have HW : Hid (WfX w wo u4 (inW V i) (8064 * i)) := hW
    clear hW HB1
    by_cases hlt : i < n
    · have hlt' : (i : Int) < (n : Int) := by omega
      have hsr := HS.out.1.next HW.out.below
      rcases hsr.1 with h | ⟨b, off, rfl, hbs, hE⟩
      · omega
      obtain ⟨c0, c1, c2⟩ := lk_cells hE hlt
      have hgp := HGP.out i hlt
      have HAT : Hid (∀ W, Below w.heap.size w W → HdAt W (A i) (V i)) := fun W hb => (HS.out.1.next hb).2 i hlt
      clear hsr hE
      obtain ⟨Vi, hVi⟩ : ∃ x, x = V i := ⟨_, rfl⟩
      obtain ⟨Ai, hAi⟩ : ∃ x, x = A i := ⟨_, rfl⟩
      have HVI : Hid (V i = Vi) := hVi.symm
      rw [← hVi] at c0 c1 c2 hgp
      rw [← hAi] at c1 c2
      rw [← hVi, ← hAi] at HAT
      clear hVi hAi
      obtain ⟨key, ⟨hN, ht, hm⟩, ⟨wN, wt, wm⟩⟩ := Vi
      obtain ⟨ha, hc, wa, wc⟩ := Ai
      simp only at c0 c1 c2 hgp
      have HSL : Hid (∀ W, Below w.heap.size w W → Sl W ha hN 2 (hdF ht hm) ∧ Sl W wa wN 2 (hdF wt wm) ∧ hN ≤ hc ∧ wN ≤ wc) := HAT.out
      clear HAT
      have HB0 := Bx.new wo [.string key, .slice ha hN hc, .slice wa wN wc] 48
      have HX : Hid (Bx (wo.alloc (.cells #[.string key, .slice ha hN hc, .slice wa wN wc] 48)) wo.heap.size [.string key, .slice ha hN hc, .slice wa wN wc] ∧ WfX w (wo.alloc (.cells #[.string key, .slice ha hN hc, .slice wa wN wc] 48)) u4 (inW V i) (8064 * i)) := ⟨HB0, HW.out.next (Go.Joins.below_alloc1 _ _)⟩
      clear HB0 HW
      obtain ⟨v : LkV, hv⟩ : ∃ v : LkV, v = ⟨key, ⟨hN, ht, hm⟩, ⟨wN, wt, wm⟩⟩ := ⟨_, rfl⟩
      have HV : Hid (v = ⟨key, ⟨hN, ht, hm⟩, ⟨wN, wt, wm⟩⟩ ∧ V i = v) := ⟨hv, HVI.out.trans hv.symm⟩
      clear hv HVI
      go_wp2
      clear c0 c1 c2
      obtain ⟨g1, hg1⟩ : ∃ x, x = wo.heap.size := ⟨_, rfl⟩
      rw [← hg1] at HX ⊢
      clear hg1
      go_loopw [25, 4] (fun x u wr => ∃ j : Nat, j ≤ wN ∧ x = .int .i64 j ∧ WfX w wr u (fun z => inW V i z ∨ inJ v j z) (8064 * i + 1008 * j) ∧ Bx wr g1 [.string key, .slice ha hN hc, .slice wa wN wc]) (fun x _ _ => wN - (intOf x).toNat)
      case atStart => exact ⟨0, Nat.zero_le _, rfl, HX.out.2.congr (fun z => by simp [inJ_zero]) (by omega), HX.out.1⟩
      case round =>
        obtain ⟨j, hj, rfl, hW, hbx⟩ := hrel
        obtain ⟨wq, hwq⟩ : ∃ x, x = wr := ⟨wr, rfl⟩
        subst hwq
        have HW : Hid (WfX w wq u4 (fun z => inW V i z ∨ inJ v j z) (8064 * i + 1008 * j) ∧ Bx wq g1 [.string key, .slice ha hN hc, .slice wa wN wc]) := ⟨hW, hbx⟩
        clear hW hbx HX
        by_cases hlj : j < wN
        · have hlj' : (j : Int) < (wN : Int) := by omega
          have hsl := HSL.out wq HW.out.1.below
          have hwc := hsl.2.2.2
          rcases hsl.2.1 with h | ⟨b', off', rfl, hbs', hE'⟩
          · omega
          obtain ⟨c0, c1⟩ := hd_cells hE' hlj
          have d1 := HW.out.2.cell 1 rfl
          have d2 := HW.out.2.cell 2 rfl
          have dz := HW.out.2.2
          clear hsl hE'
          have HB0 := Bx.new wq [.int .i64 (wt j), .int .i64 (wm j)] 50
          have HX : Hid (Bx (wq.alloc (.cells #[.int .i64 (wt j), .int .i64 (wm j)] 50)) wq.heap.size [.int .i64 (wt j), .int .i64 (wm j)] ∧ Bx (wq.alloc (.cells #[.int .i64 (wt j), .int .i64 (wm j)] 50)) g1 [.string key, .slice ha hN hc, .slice (some ⟨b', off', none⟩) wN wc] ∧ WfX w (wq.alloc (.cells #[.int .i64 (wt j), .int .i64 (wm j)] 50)) u4 (fun z => inW V i z ∨ inJ v j z) (8064 * i + 1008 * j)) := ⟨HB0, HW.out.2.next (Go.Joins.below_alloc1 _ _), HW.out.1.next (Go.Joins.below_alloc1 _ _)⟩
          clear HB0 HW
          have HTJ : Hid (v.w.t j = wt j ∧ v.h.n = hN ∧ v.h.t = ht ∧ v.w.t = wt) := by rw [HV.out.1]; exact ⟨rfl, rfl, rfl, rfl⟩
          generalize wt j = t0 at *
          generalize wm j = m0 at *
          go_wp2
          clear c0 c1 d1 d2 dz
          obtain ⟨g2, hg2⟩ : ∃ x, x = wq.heap.size := ⟨_, rfl⟩
          rw [← hg2] at HX ⊢
          clear hg2
          go_loopw [33, 4] (fun x u wr => ∃ h : Nat, h ≤ hN ∧ x = .int .i64 h ∧ WfX w wr u (fun z => (inW V i z ∨ inJ v j z) ∨ inH v j h z) (8064 * i + 1008 * j + h) ∧ Bx wr g1 [.string key, .slice ha hN hc, .slice (some ⟨b', off', none⟩) wN wc] ∧ Bx wr g2 [.int .i64 t0, .int .i64 m0]) (fun x _ _ => hN - (intOf x).toNat)
          case atStart => exact ⟨0, Nat.zero_le _, rfl, HX.out.2.2.congr (fun z => by simp [inH_zero]) (by omega), HX.out.2.1, HX.out.1⟩
          case round =>
            obtain ⟨h, hh, rfl, hW, hb1, hb2⟩ := hrel
            have HW : Hid (WfX w wr u4 (fun z => (inW V i z ∨ inJ v j z) ∨ inH v j h z) (8064 * i + 1008 * j + h) ∧ Bx wr g1 [.string key, .slice ha hN hc, .slice (some ⟨b', off', none⟩) wN wc] ∧ Bx wr g2 [.int .i64 t0, .int .i64 m0]) := ⟨hW, hb1, hb2⟩
            clear hW hb1 hb2 HX
            by_cases hlh : h < hN
            · have hlh' : (h : Int) < (hN : Int) := by omega
              have hsl := HSL.out wr HW.out.1.below
              rcases hsl.1 with q | ⟨b3, off3, rfl, hbs3, hE3⟩
              · omega
              obtain ⟨c0, c1⟩ := hd_cells hE3 hlh
              have d0 := HW.out.2.2.cell 0 rfl
              have dz := HW.out.2.2.2
              have HTH : Hid (v.h.t h = ht h) := congrFun HTJ.out.2.2.1 h
              clear hsl hE3
              generalize ht h = t1 at *
              generalize hm h = m1 at *
              have hba : Below wr.heap.size wr (wr.alloc (.cells #[.int .i64 t1, .int .i64 m1] 50)) := Go.Joins.below_alloc1 _ _
              have HX : Hid (WfX w (wr.alloc (.cells #[.int .i64 t1, .int .i64 m1] 50)) u4 (fun z => (inW V i z ∨ inJ v j z) ∨ inH v j h z) (8064 * i + 1008 * j + h) ∧ Bx (wr.alloc (.cells #[.int .i64 t1, .int .i64 m1] 50)) g1 [.string key, .slice (some ⟨b3, off3, none⟩) hN hc, .slice (some ⟨b', off', none⟩) wN wc] ∧ Bx (wr.alloc (.cells #[.int .i64 t1, .int .i64 m1] 50)) g2 [.int .i64 t0, .int .i64 m0]) := ⟨HW.out.1.next hba, HW.out.2.1.next hba, HW.out.2.2.next hba⟩
              clear hba HW
              by_cases hne : t1 = t0
              · have HNE : Hid (v.h.t h = v.w.t j) := by rw [HTH.out, HTJ.out.1]; exact hne
                subst hne
                go_wp2
                go_roundw
                case rel => exact ⟨h + 1, by omega, by go_num, HX.out.1.congr (fun z => by rw [inH_no HNE.out]) (by omega), HX.out.2.1, HX.out.2.2⟩
                case measure => simp [intOf]; omega
              · have HNE : Hid (v.h.t h ≠ v.w.t j) := by rw [HTH.out, HTJ.out.1]; exact hne
                have hne' : (t1 == t0) = false := by simpa using hne
                go_wp2_with fail
                refine (HX.out.1.ins (by omega)).mono ?_
                rintro r w5 ⟨v5, rfl, hW5, hb5⟩
                have H5 : Hid (WfX w w5 v5 (fun z => ((inW V i z ∨ inJ v j z) ∨ inH v j h z) ∨ z = (t0, t1)) (8064 * i + 1008 * j + h + 1) ∧ Bx w5 g1 [.string key, .slice (some ⟨b3, off3, none⟩) hN hc, .slice (some ⟨b', off', none⟩) wN wc] ∧ Bx w5 g2 [.int .i64 t0, .int .i64 m0]) := ⟨hW5, HX.out.2.1.next hb5, HX.out.2.2.next hb5⟩
                clear hW5 hb5 HX c0 c1 d0 dz
                go_wp2
                go_roundw
                case rel => exact ⟨h + 1, by omega, by go_num, H5.out.1.congr (fun z => by rw [inH_yes HNE.out, HTH.out, HTJ.out.1, or_assoc (a := inW V i z ∨ inJ v j z)]) (by omega), H5.out.2.1, H5.out.2.2⟩
                case measure => simp [intOf]; omega
            · have hlh' : ¬ (h : Int) < (hN : Int) := by omega
              have HW4 : Hid (WfX w wr u4 (fun z => ((inW V i z ∨ inJ v j z) ∨ inH v j v.h.n z) ∨ inQ v j 0 z) (8064 * i + 1008 * j + 1000) ∧ Bx wr g1 [.string key, .slice ha hN hc, .slice (some ⟨b', off', none⟩) wN wc] ∧ Bx wr g2 [.int .i64 t0, .int .i64 m0]) := ⟨HW.out.1.congr (fun z => by rw [HTJ.out.2.1, show hN = h by omega]; simp [inQ_zero]) (by omega), HW.out.2.1, HW.out.2.2⟩
              have d2 := HW.out.2.1.cell 2 rfl
              have dz := HW.out.2.1.2
              have hjc : (j : Int) ≤ (wc : Int) := by omega
              clear HW
              go_wp2
              clear d2 dz
              go_loopw [55, 4] (fun x u wr => ∃ q : Nat, q ≤ j ∧ x = .int .i64 q ∧ WfX w wr u (fun z => ((inW V i z ∨ inJ v j z) ∨ inH v j v.h.n z) ∨ inQ v j q z) (8064 * i + 1008 * j + 1000 + q) ∧ Bx wr g1 [.string key, .slice ha hN hc, .slice (some ⟨b', off', none⟩) wN wc] ∧ Bx wr g2 [.int .i64 t0, .int .i64 m0]) (fun x _ _ => j - (intOf x).toNat)
              case atStart => exact ⟨0, Nat.zero_le _, rfl, HW4.out.1, HW4.out.2.1, HW4.out.2.2⟩
              case round =>
                obtain ⟨q, hq, rfl, hW, hb1, hb2⟩ := hrel
                have HW : Hid (WfX w wr u4 (fun z => ((inW V i z ∨ inJ v j z) ∨ inH v j v.h.n z) ∨ inQ v j q z) (8064 * i + 1008 * j + 1000 + q) ∧ Bx wr g1 [.string key, .slice ha hN hc, .slice (some ⟨b', off', none⟩) wN wc] ∧ Bx wr g2 [.int .i64 t0, .int .i64 m0]) := ⟨hW, hb1, hb2⟩
                clear hW hb1 hb2 HW4
                by_cases hlq : q < j
                · have hlq' : (q : Int) < (j : Int) := by omega
                  have hsl := (HSL.out wr HW.out.1.below).2.1
                  rcases hsl with q0 | ⟨b3, off3, e3, hbs3, hE3⟩
                  · omega
                  simp only [Option.some.injEq, Addr.mk.injEq, and_true] at e3
                  obtain ⟨e3, e4⟩ := e3
                  subst e3 e4
                  obtain ⟨c0, c1⟩ := hd_cells hE3 (show q < wN by omega)
                  have d0 := HW.out.2.2.cell 0 rfl
                  have dz := HW.out.2.2.2
                  have HTH : Hid (v.w.t q = wt q) := congrFun HTJ.out.2.2.2 q
                  clear hE3
                  generalize wt q = t1 at *
                  generalize wm q = m1 at *
                  have hba : Below wr.heap.size wr (wr.alloc (.cells #[.int .i64 t1, .int .i64 m1] 50)) := Go.Joins.below_alloc1 _ _
                  have HX : Hid (WfX w (wr.alloc (.cells #[.int .i64 t1, .int .i64 m1] 50)) u4 (fun z => ((inW V i z ∨ inJ v j z) ∨ inH v j v.h.n z) ∨ inQ v j q z) (8064 * i + 1008 * j + 1000 + q) ∧ Bx (wr.alloc (.cells #[.int .i64 t1, .int .i64 m1] 50)) g1 [.string key, .slice ha hN hc, .slice (some ⟨b', off', none⟩) wN wc] ∧ Bx (wr.alloc (.cells #[.int .i64 t1, .int .i64 m1] 50)) g2 [.int .i64 t0, .int .i64 m0]) := ⟨HW.out.1.next hba, HW.out.2.1.next hba, HW.out.2.2.next hba⟩
                  clear hba HW
                  go_wp2_with fail
                  refine (HX.out.1.ins (by omega)).mono ?_
                  rintro r w5 ⟨v5, rfl, hW5, hb5⟩
                  have H5 : Hid (WfX w w5 v5 (fun z => (((inW V i z ∨ inJ v j z) ∨ inH v j v.h.n z) ∨ inQ v j q z) ∨ z = (t0, t1)) (8064 * i + 1008 * j + 1000 + q + 1) ∧ Bx w5 g1 [.string key, .slice ha hN hc, .slice (some ⟨b', off', none⟩) wN wc] ∧ Bx w5 g2 [.int .i64 t0, .int .i64 m0]) := ⟨hW5, HX.out.2.1.next hb5, HX.out.2.2.next hb5⟩
                  clear hW5 hb5 HX c0 c1 d0 dz
                  go_wp2
                  go_roundw
                  case rel => exact ⟨q + 1, by omega, by go_num, H5.out.1.congr (fun z => by rw [inQ_succ, HTH.out, HTJ.out.1, or_assoc (a := (inW V i z ∨ inJ v j z) ∨ inH v j v.h.n z)]) (by omega), H5.out.2.1, H5.out.2.2⟩
                  case measure => simp [intOf]; omega
                · have hlq' : ¬ (q : Int) < (j : Int) := by omega
                  have HWE : Hid (WfX w wr u4 (fun z => inW V i z ∨ inJ v (j + 1) z) (8064 * i + 1008 * (j + 1)) ∧ Bx wr g1 [.string key, .slice ha hN hc, .slice (some ⟨b', off', none⟩) wN wc]) := ⟨HW.out.1.congr (fun z => by rw [inJ_succ, show q = j by omega]; simp only [or_assoc]) (by omega), HW.out.2.1⟩
                  clear HW
                  go_wp2
                  go_roundw
                  case rel => exact ⟨j + 1, by omega, by go_num, HWE.out.1, HWE.out.2⟩
                  case measure => simp [intOf]; omega
        · have hlj' : ¬ (j : Int) < (wN : Int) := by omega
          have HWE : Hid (WfX w wq u4 (inW V (i + 1)) (8064 * (i + 1))) := HW.out.1.congr (fun z => by rw [inW_succ, HV.out.2, HV.out.1, show wN = j by omega]) (by omega)
          clear HW
          go_wp2
          go_roundw
          case rel => exact ⟨i + 1, by omega, by go_num, HWE.out⟩
          case measure => simp [intOf]; omega
    · have hin : i = n := by omega
      have hlt' : ¬ (i : Int) < (n : Int) := by omega
      obtain ⟨a5, k5, c5, rfl, hp⟩ := WfX.post (by rw [← hin]; exact HW.out) HG.out hn20
      have HP : Hid (WaitPost V n w (.returned (.tuple #[.slice a5 k5 c5, .bool true])) wo) := hp
      clear hp HW hin
      go_wp2
      go_ret2
      exact HP.out
end Go.Proofs.Ytnapgnkhajkbkaa
