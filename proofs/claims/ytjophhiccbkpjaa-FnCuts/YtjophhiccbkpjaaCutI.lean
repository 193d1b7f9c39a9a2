/- The contract of GoodCut. -/
import Derived.Test.YtjophhiccbkpjaaCutS
import Derived.Test.YtjophhiccbkpjaaVcA
namespace Go.Proofs.Ytjophhiccbkpjaa
open Go.RowKit
set_option linter.unusedVariables false

theorem vf_gc {K P M : Nat → Int} {n : Nat} {X : Nat → Int} {n' : Nat} (h : vfOk X n' 60 = false) : gcOk K P M n X n' = false := by
  cases hg : gcOk K P M n X n'
  · rfl
  · simp only [gcOk, Bool.and_eq_true, decide_eq_true_eq] at hg
    have h60 := (good_ev hg.1).1
    have hf := (fits_iff P X n 6).1 hg.2.2
    have : vfOk X n' 60 = true := by
      simp only [vfOk, Bool.and_eq_true, decide_eq_true_eq]
      exact ⟨hg.2.1, (allIn_iff X 60 6).2 fun p hp => inR_iff.2 ⟨(hf p hp).1, by have := (hf p hp).2; have := (cnt_bd P p n).2; omega⟩⟩
    rw [this] at h; cases h
theorem vf_six {X : Nat → Int} {n' : Nat} (h : vfOk X n' 60 = true) : n' = 6 ∧ ∀ p, p < 6 → 0 ≤ X p ∧ X p ≤ 60 := by
  simp only [vfOk, Bool.and_eq_true, decide_eq_true_eq] at h
  exact ⟨h.1, fun p hp => inR_iff.1 ((allIn_iff X 60 6).1 h.2 p hp)⟩
theorem run_ne6 (x y : Nat → Int) (W : World) : (binOp .neq 73 (.agg #[.int .i64 (x 0), .int .i64 (x 1), .int .i64 (x 2), .int .i64 (x 3), .int .i64 (x 4), .int .i64 (x 5)]) (.agg #[.int .i64 (y 0), .int .i64 (y 1), .int .i64 (y 2), .int .i64 (y 3), .int .i64 (y 4), .int .i64 (y 5)])).run Try.prog W = .ok (.bool (!eq6 x y)) W := by
  have h := run_eq6 x y W
  rw [run_eql_struct] at h
  rw [run_neq_struct]
  cases hr : (Op.equalIn 10000 73 (.agg #[.int .i64 (x 0), .int .i64 (x 1), .int .i64 (x 2), .int .i64 (x 3), .int .i64 (x 4), .int .i64 (x 5)]) (.agg #[.int .i64 (y 0), .int .i64 (y 1), .int .i64 (y 2), .int .i64 (y 3), .int .i64 (y 4), .int .i64 (y 5)])).run Try.prog W with
  | ok b w' => rw [hr] at h; simp at h; simp [h]
  | halt e w' => rw [hr] at h; simp at h
theorem SRow.setOther {w : World} {B C g o : Nat} {a : Option Addr} {n c : Nat} {F : Nat → Nat → Value} {v : Value} (h : SRow w B C a n c F) (hg : g < B) : SRow (w.setCell ⟨g, o, none⟩ v) B C a n c F :=
  h.trn ((Trn.refl g (g + 1) w).set (p := ⟨g, o, none⟩) (Nat.le_refl _) (by simp) v) (by omega)
/-- The loop's memory: the cut, what is counted, what is needed, the clocks. -/
def CutM (K P M : Nat → Int) (X : Nat → Int) (wr : World) (gc gk B C : Nat) (a : Option Addr) (n k : Nat) : Prop :=
  Vec wr gc X ∧ Vec wr gk (fun p => cnt P p k) ∧ Vec wr (gk + 1) (nd K P M X k) ∧ SRow wr B C a n 6 (vecF K P M)
theorem CutM.next {K P M : Nat → Int} {X : Nat → Int} {wr w' : World} {gc gk B C : Nat} {a : Option Addr} {n k : Nat} (h : CutM K P M X wr gc gk B C a n k) (hb : Below wr.heap.size wr w') : CutM K P M X w' gc gk B C a n k :=
  ⟨h.1.below hb h.1.2, h.2.1.below hb h.2.1.2, h.2.2.1.below hb h.2.2.1.2, h.2.2.2.next hb⟩

set_option maxRecDepth 100000 in
set_option maxHeartbeats 4000000 in
theorem goodCut_any (a : Option Addr) (n cap : Nat) (K P M : Nat → Int) (a' : Option Addr) (n' cap' : Nat) (X : Nat → Int) (w : World) (hn : n ≤ 1048576) (hn' : n' ≤ 1048576) (hM : ∀ i, i < n → -9223372036854775808 ≤ M i ∧ M i ≤ 9223372036854775807) (hs : Sl w a n 3 (evF K P M)) (hx : Sl w a' n' 1 (intF X)) :
    Calls Try.prog 28 #[.slice a n cap, .slice a' n' cap'] w fun r w' => GcPost K P M n X n' w r w' := by
  have HM : Hid (∀ i, i < n → -9223372036854775808 ≤ M i ∧ M i ≤ 9223372036854775807) := hM
  have HS : Hid (Sl w a n 3 (evF K P M) ∧ Sl w a' n' 1 (intF X)) := ⟨hs, hx⟩
  clear hs hx hM
  go_enter Try.func28, Try.ntmps28
  go_wp2_with fail
  refine (vectorFrom_any _ _ _ X 60 _ hn' HS.out.2).mono ?_
  rintro r w1 ⟨rfl, hb1⟩
  have HB1 : Hid (Below w.heap.size w w1) := hb1
  have hz1 : w.heap.size ≤ w1.heap.size := hb1.size
  clear hb1
  cases hv : vfOk X n' 60
  · have HN : Hid (gcOk K P M n X n' = false) := vf_gc hv
    clear hv
    generalize vfV X n' 60 = c
    unfold vec
    go_wp2
    exact bodyPost_ret (v := .tuple #[.bool false, .bool false]) (by simp [results, Try.results28, go_sem]) rfl (gc_no HN.out (HB1.out.alloc hz1 _))
  obtain ⟨h6, hXb⟩ := vf_six hv
  have hvX : vec (vfV X n' 60) = vec X := vec_congr (fun i _ => by simp [vfV, hv])
  rw [hvX]
  have HX : Hid (∀ p, p < 6 → 0 ≤ X p ∧ X p ≤ 60) := hXb
  clear hv hvX hXb
  subst h6
  unfold vec
  go_wp2_with fail
  refine (goodEvents_any _ _ _ K P M _ hn HM.out (HS.out.1.kept (HB1.out.alloc hz1 _))).mono ?_
  rintro r w2 ⟨rfl, hb2⟩
  have HB2 : Hid (Below w.heap.size w w2 ∧ Vec w2 w1.heap.size X) := ⟨(HB1.out.alloc hz1 _).trans (hb2.mono (by simp; omega)), (Vec.new w1 X 73).below hb2 (by simp)⟩
  have hz2 : w.heap.size ≤ w2.heap.size := HB2.out.1.size
  clear hb2
  cases hg : goodE K P M n
  · have HN : Hid (gcOk K P M n X 6 = false) := by show _ = _; simp [gcOk, hg]
    go_wp2
    exact bodyPost_ret (v := .tuple #[.bool false, .bool false]) (by simp [results, Try.results28, go_sem]) rfl (gc_no HN.out HB2.out.1)
  obtain ⟨h60, hev⟩ := good_ev hg
  have HE : Hid (∀ i, i < n → evOk K P M i = true) := hev
  have HG : Hid (gcOk K P M n X 6 = fits P X n 6) := by show _ = _; simp [gcOk, hg]
  clear hg hev
  go_wp2_with fail
  refine (vectors_any _ _ _ K P M _ h60 HM.out HE.out (HS.out.1.kept ((HB2.out.1.alloc hz2 _).alloc (by simp; omega) _))).mono ?_
  rintro r w3 ⟨⟨a3, cap3, rfl, hR⟩, hb3⟩
  obtain ⟨gk, hgk⟩ : ∃ g, g = w2.heap.size := ⟨_, rfl⟩
  have H3 : Hid (CutM K P M X w3 w1.heap.size gk (gk + 2) w3.heap.size a3 n 0 ∧ Below w.heap.size w w3) := by
    rw [hgk]
    have hbA := ((Below.refl w2.heap.size w2).alloc (Nat.le_refl _) (.cells #[.int .i64 0, .int .i64 0, .int .i64 0, .int .i64 0, .int .i64 0, .int .i64 0] 73)).alloc (by simp) (.cells #[.int .i64 0, .int .i64 0, .int .i64 0, .int .i64 0, .int .i64 0, .int .i64 0] 73)
    have v1 := ((Vec.new w2 (fun _ => 0) 73).below (Go.Joins.below_alloc1 _ (.cells #[.int .i64 0, .int .i64 0, .int .i64 0, .int .i64 0, .int .i64 0, .int .i64 0] 73)) (by simp)).below hb3 (by simp; omega)
    have v2 := (Vec.new (w2.alloc (.cells #[.int .i64 0, .int .i64 0, .int .i64 0, .int .i64 0, .int .i64 0, .int .i64 0] 73)) (fun _ => 0) 73).below hb3 (by simp)
    refine ⟨⟨(HB2.out.2.below hbA HB2.out.2.2).below hb3 (by have := HB2.out.2.2; simp; omega), v1.congr (fun _ _ => rfl), ?_, hR.wide (by simp)⟩, HB2.out.1.trans ((hbA.mono hz2).trans (hb3.mono (by simp; omega)))⟩
    simpa using v2.congr (y := nd K P M X 0) (fun _ _ => rfl)
  have hgcl : w1.heap.size < gk := by rw [hgk]; exact HB2.out.2.2
  have hwk : w.heap.size ≤ gk := by omega
  have hg3 : gk + 2 ≤ w3.heap.size := by rw [hgk]; have := hb3.size; simp at this; omega
  have hR3 := H3.out.1.2.2.2
  rw [← hgk]
  obtain ⟨gc, hgc⟩ : ∃ g, g = w1.heap.size := ⟨_, rfl⟩
  rw [← hgc]
  rw [← hgc] at H3 hgcl
  have hwc : w.heap.size ≤ gc := by omega
  clear hR hb3 HB2 hgk hgc hR3 hz2 hz1 HB1
  have HC3 : Hid (w3.heap.size = w3.heap.size) := rfl
  obtain ⟨C, hC⟩ : ∃ C, C = w3.heap.size := ⟨_, rfl⟩
  rw [← hC] at H3
  clear hC HC3
  go_wp2
  go_loopw [28] (fun i wr => ∃ k : Nat, k ≤ n ∧ i = .int .i64 k ∧ CutM K P M X wr gc gk (gk + 2) C a3 n k ∧ Below w.heap.size w wr) (fun i _ => n - (intOf i).toNat)
  case atStart => exact ⟨0, Nat.zero_le _, rfl, H3.out⟩
  case round =>
    obtain ⟨k, hk, rfl, hL, hBr⟩ := hrel
    clear H3
    obtain ⟨wo, hwo⟩ : ∃ x, x = wr := ⟨wr, rfl⟩
    subst hwo
    by_cases hlt : k < n
    · have hlt' : (k : Int) < (n : Int) := by omega
      rcases HS.out.1.kept hBr with h | ⟨b, off, rfl, hbs, hE⟩
      · omega
      obtain ⟨c0, c1, c2⟩ := ev_cells hE hlt
      obtain ⟨⟨q, hq, hq6⟩, _⟩ := ev_kind (HE.out k hlt)
      have hq6' : (q : Int) < 6 := by omega
      rw [hq] at c1
      obtain ⟨g, rfl, hgl, v0, v1, v2, v3, v4, v5⟩ := vec_row hL.2.2.2 hlt
      obtain ⟨u, hu⟩ : ∃ u, u = vc K P M (k + 1) := ⟨_, rfl⟩
      rw [← hu] at v0 v1 v2 v3 v4 v5
      have kq : wo.cell? ⟨gk, q, none⟩ = some (.int .i64 (cnt P q k)) := (hL.2.1.1 q hq6).1
      have kf := (hL.2.1.1 q hq6).2
      have kz := hL.2.1.2
      have hbd := cnt_bd P q k
      have HL : Hid (CutM K P M X wo gc gk (gk + 2) C (some ⟨g, 0, none⟩) n k ∧ Below w.heap.size w wo) := ⟨hL, hBr⟩
      have hz : w.heap.size ≤ wo.heap.size := hBr.size
      have HQ : Hid (P k = (q : Int) ∧ u = vc K P M (k + 1)) := ⟨hq, hu⟩
      clear hL hBr hE hq hu c0 c2
      obtain ⟨m, hm⟩ : ∃ m, m = cnt P q k := ⟨_, rfl⟩
      rw [← hm] at kq hbd
      have HMm : Hid (m = cnt P q k) := hm
      clear hm
      go_upto_region 10 with fail
      obtain ⟨wA, hwA⟩ : ∃ z, z = (wo.setCell ⟨gk, q, none⟩ (.int .i64 (m + 1))).alloc (.cells #[.int .i64 (u 0), .int .i64 (u 1), .int .i64 (u 2), .int .i64 (u 3), .int .i64 (u 4), .int .i64 (u 5)] 73) := ⟨_, rfl⟩
      rw [← hwA]
      have A_ : Hid (Vec wA gc X ∧ Vec wA gk (fun p => cnt P p (k + 1)) ∧ Vec wA (gk + 1) (nd K P M X k) ∧ SRow wA (gk + 2) C (some ⟨g, 0, none⟩) n 6 (vecF K P M) ∧ Vec wA wo.heap.size u ∧ Below w.heap.size w wA) := by
        rw [hwA]
        obtain ⟨⟨q1, q2, q3, q4⟩, q5⟩ := HL.out
        have hb := Go.Joins.below_alloc1 (wo.setCell ⟨gk, q, none⟩ (.int .i64 (m + 1))) (.cells #[.int .i64 (u 0), .int .i64 (u 1), .int .i64 (u 2), .int .i64 (u 3), .int .i64 (u 4), .int .i64 (u 5)] 73)
        have t1 := q1.setOther (g' := gk) (q := q) (v := .int .i64 (m + 1)) (by omega)
        have t2 := (q2.set hq6 (m + 1)).congr (y := fun p => cnt P p (k + 1)) (fun p _ => by
          simp only [cnt, HQ.out.1]
          by_cases e : p = q
          · subst e; simp [HMm.out]
          · have e2 : ¬ ((q : Int) = (p : Int)) := by omega
            simp [e, e2])
        have t3 := q3.setOther (g' := gk) (q := q) (v := .int .i64 (m + 1)) (by omega)
        have t4 := q4.setOther (g := gk) (o := q) (v := .int .i64 (m + 1)) (by omega)
        have t5 := Vec.new (wo.setCell ⟨gk, q, none⟩ (.int .i64 (m + 1))) u 73
        exact ⟨t1.below hb t1.2, t2.below hb t2.2, t3.below hb t3.2, t4.next hb, by simpa using t5, (q5.setCell (p := ⟨gk, q, none⟩) hwk _).alloc (by simpa using hz) _⟩
      clear hwA kq kf kz v0 v1 v2 v3 v4 v5 c1
      have kq : wA.cell? ⟨gk, q, none⟩ = some (.int .i64 (m + 1)) := by
        have := (A_.out.2.1.1 q hq6).1
        rw [this, HMm.out]; simp [cnt, HQ.out.1]
      have cq := (A_.out.1.1 q hq6).1
      have kz := A_.out.2.1.2
      have cz := A_.out.1.2
      go_cut [49] (fun s49 wx => s49 = .bool (decide (m + 1 ≤ X q)) ∧ Below wA.heap.size wA wx)
      case first =>
        go_region
        all_goals (go_wp2_with fail; go_meet; exact ⟨rfl, (Below.refl _ _).drew⟩)
      case rest =>
        obtain ⟨rfl, hb⟩ := hcut
        obtain ⟨wB, hwB⟩ : ∃ x, x = wc := ⟨wc, rfl⟩
        subst hwB
        have B_ : Hid (Vec wB gc X ∧ Vec wB gk (fun p => cnt P p (k + 1)) ∧ Vec wB (gk + 1) (nd K P M X k) ∧ SRow wB (gk + 2) C (some ⟨g, 0, none⟩) n 6 (vecF K P M) ∧ Vec wB wo.heap.size u ∧ Below w.heap.size w wB) := by
          obtain ⟨q1, q2, q3, q4, q5, q6⟩ := A_.out
          exact ⟨q1.below hb q1.2, q2.below hb q2.2, q3.below hb q3.2, q4.next hb, q5.below hb q5.2, below_next q6 hb⟩
        clear hb A_ kq cq kz cz wA
        have HI : Hid (inCut P X k = decide (m + 1 ≤ X q)) := by
          show _ = _
          simp [inCut, place, HQ.out.1, cnt, HMm.out]
        by_cases hle : m + 1 ≤ X q
        · have e1 : decide (m + 1 ≤ X q) = true := by simpa using hle
          rw [e1]
          obtain ⟨x, hx⟩ : ∃ x, x = nd K P M X k := ⟨_, rfl⟩
          have HXx : Hid (x = nd K P M X k) := hx
          have hvx := B_.out.2.2.1
          rw [← hx] at hvx
          obtain ⟨⟨d0, d1, d2, d3, d4, d5⟩, f0, f1, f2, f3, f4, f5⟩ := hvx.six
          obtain ⟨⟨v0, v1, v2, v3, v4, v5⟩, vr_⟩ := B_.out.2.2.2.2.1.six
          have nz := hvx.2
          have vz := B_.out.2.2.2.2.1.2
          clear vr_ hx hvx
          go_wp2_with fail
          refine (greater_any x u _).mono ?_
          rintro r wG ⟨rfl, hbG⟩
          unfold vec
          have G_ : Hid (Vec wG gc X ∧ Vec wG gk (fun p => cnt P p (k + 1)) ∧ Vec wG (gk + 1) (nd K P M X k) ∧ SRow wG (gk + 2) C (some ⟨g, 0, none⟩) n 6 (vecF K P M) ∧ Below w.heap.size w wG) := by
            obtain ⟨q1, q2, q3, q4, q5, q6⟩ := B_.out
            exact ⟨q1.below hbG q1.2, q2.below hbG q2.2, q3.below hbG q3.2, q4.next hbG, below_next q6 hbG⟩
          clear hbG d0 d1 d2 d3 d4 d5 f0 f1 f2 f3 f4 f5 v0 v1 v2 v3 v4 v5 nz vz B_
          obtain ⟨⟨d0, d1, d2, d3, d4, d5⟩, f0, f1, f2, f3, f4, f5⟩ := G_.out.2.2.1.six
          have nz := G_.out.2.2.1.2
          obtain ⟨y, hy⟩ : ∃ y : Nat → Int, y = fun i => max (x i) (u i) := ⟨_, rfl⟩
          have HF : Hid (CutM K P M X (set6 wG (gk + 1) 0 y) gc gk (gk + 2) C (some ⟨g, 0, none⟩) n (k + 1) ∧ Below w.heap.size w (set6 wG (gk + 1) 0 y)) := by
            obtain ⟨q1, q2, q3, q4, q5⟩ := G_.out
            refine ⟨⟨q1.other6 (by omega), q2.other6 (by omega), (q3.put6 y).congr (fun p _ => ?_), ?_⟩, set6_below q5 (by omega)⟩
            · simp only [nd, HI.out, e1, if_true, hy, HXx.out, HQ.out.2]
            · unfold set6
              exact ((((((q4.setOther (by omega)).setOther (by omega)).setOther (by omega)).setOther (by omega)).setOther (by omega)).setOther (by omega))
          have hye : ∀ i, max (x i) (u i) = y i := fun i => by rw [hy]
          simp only [hye]
          clear hye hy
          go_wp2
          go_roundw
          case rel => exact ⟨k + 1, by omega, by go_num, HF.out⟩
          case measure => simp [intOf]; omega
        · have e1 : decide (m + 1 ≤ X q) = false := by simpa using hle
          rw [e1]
          have HF : Hid (CutM K P M X wB gc gk (gk + 2) C (some ⟨g, 0, none⟩) n (k + 1) ∧ Below w.heap.size w wB) := by
            obtain ⟨q1, q2, q3, q4, q5, q6⟩ := B_.out
            exact ⟨⟨q1, q2, q3.congr (fun p _ => by simp only [nd, HI.out, e1]; rfl), q4⟩, q6⟩
          clear B_
          go_wp2
          go_roundw
          case rel => exact ⟨k + 1, by omega, by go_num, HF.out⟩
          case measure => simp [intOf]; omega
    · have hkn : k = n := by omega
      subst hkn
      have HF : Hid (fits P X k 6 = true → eq6 (nd K P M X k) X = cutAll K P M X k) := fun hf => cut_eq HE.out ((fits_iff P X k 6).1 hf)
      have HFe : Hid (eq6 (fun p => max (cnt P p k) (X p)) (fun p => cnt P p k) = fits P X k 6) := fits_eq (fun p hp => (HX.out p hp).1)
      obtain ⟨kn, hkn⟩ : ∃ f : Nat → Int, f = fun p => cnt P p k := ⟨_, rfl⟩
      obtain ⟨x, hx⟩ : ∃ x, x = nd K P M X k := ⟨_, rfl⟩
      have L_ : Hid (Vec wo gc X ∧ Vec wo gk kn ∧ Vec wo (gk + 1) x ∧ Below w.heap.size w wo) := by rw [hkn, hx]; exact ⟨hL.1, hL.2.1, hL.2.2.1, hBr⟩
      have HFe2 : Hid (eq6 (fun p => max (kn p) (X p)) kn = fits P X k 6) := by show _ = _; rw [hkn]; exact HFe.out
      have HF2 : Hid (fits P X k 6 = true → eq6 x X = cutAll K P M X k) := by show _ → _; rw [hx]; exact HF.out
      clear hL hBr HF HFe hkn hx
      obtain ⟨⟨d0, d1, d2, d3, d4, d5⟩, dr_⟩ := L_.out.2.1.six
      obtain ⟨⟨v0, v1, v2, v3, v4, v5⟩, vr_⟩ := L_.out.1.six
      have dz := L_.out.2.1.2
      have vz := L_.out.1.2
      clear dr_ vr_
      have r0 := run_ne6 (fun p => max (kn p) (X p)) kn
      have HVV : Hid (∀ x y : Nat → Int, ∀ W : World, Calls Try.prog 63 #[.agg #[.int .i64 (x 0), .int .i64 (x 1), .int .i64 (x 2), .int .i64 (x 3), .int .i64 (x 4), .int .i64 (x 5)], .agg #[.int .i64 (y 0), .int .i64 (y 1), .int .i64 (y 2), .int .i64 (y 3), .int .i64 (y 4), .int .i64 (y 5)]] W fun r w' => r = .returned (.agg #[.int .i64 (max (x 0) (y 0)), .int .i64 (max (x 1) (y 1)), .int .i64 (max (x 2) (y 2)), .int .i64 (max (x 3) (y 3)), .int .i64 (max (x 4) (y 4)), .int .i64 (max (x 5) (y 5))]) ∧ Below W.heap.size W w') := fun x y W => greater_any x y W
      go_upto_region 13 with fail
      go_cut [58] (fun s58 wx => s58 = .bool (!eq6 (fun p => max (kn p) (X p)) kn) ∧ Below wo.heap.size wo wx)
      case first =>
        go_region_with (go_at_call 63; refine (HVV.out kn X _).mono ?_; rintro r w5 ⟨rfl, hb5⟩; have g0 := (hb5.cell (p := ⟨gk, 0, none⟩) dz).trans d0; have g1 := (hb5.cell (p := ⟨gk, 1, none⟩) dz).trans d1; have g2 := (hb5.cell (p := ⟨gk, 2, none⟩) dz).trans d2; have g3 := (hb5.cell (p := ⟨gk, 3, none⟩) dz).trans d3; have g4 := (hb5.cell (p := ⟨gk, 4, none⟩) dz).trans d4; have g5 := (hb5.cell (p := ⟨gk, 5, none⟩) dz).trans d5)
        all_goals (go_wp2_with fail; go_meet; exact ⟨rfl, by first | exact hb5 | exact (Below.refl _ _).drew.trans hb5⟩)
      case rest =>
        obtain ⟨rfl, hb5⟩ := hcut
        rw [HFe2.out]
        have M_ : Hid (Vec wc gc X ∧ Vec wc (gk + 1) x ∧ Below w.heap.size w wc) := ⟨L_.out.1.below hb5 L_.out.1.2, L_.out.2.2.1.below hb5 L_.out.2.2.1.2, below_next L_.out.2.2.2 hb5⟩
        clear hb5 d0 d1 d2 d3 d4 d5 v0 v1 v2 v3 v4 v5 dz vz r0 L_
        cases hf : fits P X k 6
        · have HN : Hid (gcOk K P M k X 6 = false) := by show _ = _; rw [HG.out, hf]
          go_wp2
          exact bodyPost_ret (v := .tuple #[.bool false, .bool false]) (by simp [results, Try.results28, go_sem]) rfl (gc_no HN.out M_.out.2.2)
        · have HY : Hid (gcOk K P M k X 6 = true ∧ eq6 x X = cutAll K P M X k) := ⟨by rw [HG.out, hf], HF2.out hf⟩
          obtain ⟨⟨d0, d1, d2, d3, d4, d5⟩, dr_⟩ := M_.out.2.1.six
          obtain ⟨⟨v0, v1, v2, v3, v4, v5⟩, vr_⟩ := M_.out.1.six
          have dz := M_.out.2.1.2
          have vz := M_.out.1.2
          have r0 := run_eq6 x X
          clear dr_ vr_ HF2 hf
          generalize eq6 x X = e at *
          go_wp2
          exact bodyPost_ret (v := .tuple #[.bool e, .bool true]) (by simp [results, Try.results28, go_sem]) rfl (gc_yes HY.out.1 HY.out.2 M_.out.2.2)
end Go.Proofs.Ytjophhiccbkpjaa
