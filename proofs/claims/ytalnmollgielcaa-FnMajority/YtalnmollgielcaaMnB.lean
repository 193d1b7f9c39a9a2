/- A list of groups that is being built, each with a list of its own; impl.MinimalOf. -/
import Derived.Test.YtalnmollgielcaaMnG
import Derived.Test.YtalnmollgielcaaGsM
namespace Go.Proofs.Ytalnmollgielcaa
open Go.RowKit
set_option linter.unusedVariables false

def gC (V : Nat → GV) (A : Nat → GA) (n : Nat) : List Value := (List.range n).map fun r => Value.slice (A r).a (V r).n (A r).c
/-- v holds n groups; their lists lie in blocks of their own, in the order in which they were made. -/
def MiB (W : World) (lo : Nat) (v : Value) (n : Nat) (V : Nat → GV) : Prop :=
  ∃ (A : Nat → GA) (b : Nat → Nat), W.ownsRow lo 25 1 v n (gC V A n) ∧ (∀ r, r < n → IntS W (b r) (b r + 1) (A r).a (V r).n (V r).x) ∧
    (∀ r, r < n → (V r).n ≠ 0 → lo ≤ b r ∧ b r < W.heap.size ∧ v.ownBlock ≠ some (b r)) ∧ (∀ r s, r < s → s < n → (V r).n ≠ 0 → (V s).n ≠ 0 → b r < b s)
theorem MiB.nil (W : World) (lo : Nat) (V : Nat → GV) : MiB W lo (.slice none 0 0) 0 V := ⟨fun _ => default, fun _ => 0, World.ownsRow_nil _ _ _ _, fun r hr => absurd hr (by omega), fun r hr => absurd hr (by omega), fun r s _ hs => absurd hs (by omega)⟩
theorem MiB.next {W W' : World} {lo : Nat} {v : Value} {n : Nat} {V : Nat → GV} (h : MiB W lo v n V) (hb : Below W.heap.size W W') : MiB W' lo v n V := by
  obtain ⟨A, b, h1, h2, h3, h4⟩ := h
  exact ⟨A, b, own_next h1 hb, fun r hr => ints_same (h2 r hr) (fun e => hb.block _ (h3 r hr e).2.1) hb.size, fun r hr e => ⟨(h3 r hr e).1, Nat.lt_of_lt_of_le (h3 r hr e).2.1 hb.size, (h3 r hr e).2.2⟩, h4⟩
theorem MiB.own {W : World} {lo : Nat} {v : Value} {n : Nat} {V : Nat → GV} (h : MiB W lo v n V) : ∃ l, W.ownsRow lo 25 1 v n l := by
  obtain ⟨A, b, h1, _⟩ := h; exact ⟨_, h1⟩
/-- One group more: its list was made above all that stood at lo2. -/
theorem MiB.app {W0 W W' : World} {lo lo2 : Nat} {v v' : Value} {n : Nat} {V U : Nat → GV} {l : List Value} {X : GV} {a : Option Addr} {c : Nat} (h : MiB W lo v n V) (ho : W.ownsRow lo 25 1 v n l) (hlo : lo ≤ lo2)
    (hv : ∀ k, v.ownBlock = some k → k < lo2) (hbl : ∀ W1, W1 = W0 → MiB W1 lo v n V → True)
    (h0 : MiB W0 lo v n V) (hsz : W0.heap.size ≤ lo2) (hW : Below W0.heap.size W0 W)
    (hi : IntS W lo2 W.heap.size a X.n X.x) (hg : W.grownBy W' v.ownBlock) (hown : W'.ownsRow lo 25 1 v' (n + 1) (l ++ [.slice a X.n c]))
    (hwh : v'.ownBlock = v.ownBlock ∨ v'.ownBlock = some W.heap.size) (hU : ∀ r, r < n → U r = V r) (hX : U n = X) : MiB W' lo v' (n + 1) U := by
  obtain ⟨A, b, h1, h2, h3, h4⟩ := h0
  have h1' := own_next h1 hW
  have el : l = gC V A n := by
    obtain ⟨q1, q2⟩ := ho
    obtain ⟨p1, p2⟩ := h1'
    rcases q2 with ⟨e, hn⟩ | ⟨g, cap, cur, e, _, hh, _, _, _, t⟩
    · subst hn; exact (List.eq_nil_of_length_eq_zero (by simpa using q1)).trans (List.eq_nil_of_length_eq_zero (by simpa using p1)).symm
    · rcases p2 with ⟨e', hn⟩ | ⟨g', cap', cur', e', _, hh', _, _, _, t'⟩
      · rw [e] at e'; cases e'
      · rw [e] at e'
        simp only [Value.slice.injEq, Option.some.injEq, Addr.mk.injEq, and_true, true_and] at e'
        obtain ⟨rfl, rfl⟩ := e'
        rw [hh] at hh'
        simp only [Option.some.injEq, Obj.cells.injEq, and_true] at hh'
        rw [← t, ← t', hh']
  have hq : ∃ q : Nat, IntS W q (q + 1) a X.n X.x ∧ (X.n ≠ 0 → lo2 ≤ q ∧ q < W.heap.size) := by
    rcases hi with e | ⟨g, ha, hB, hc, r⟩
    · exact ⟨0, Or.inl e, fun ne => absurd e ne⟩
    · exact ⟨g, Or.inr ⟨g, ha, Nat.le_refl _, by omega, r⟩, fun _ => ⟨hB, hc⟩⟩
  obtain ⟨q, hq1, hq2⟩ := hq
  have hvq : ∀ k, k < W.heap.size → (v.ownBlock ≠ some k) → W'.heap[k]? = W.heap[k]? := fun k hk hne => hg.block k hk (fun e => hne e.symm)
  refine ⟨fun r => if r = n then ⟨a, c⟩ else A r, fun r => if r = n then q else b r, ?_, ?_, ?_, ?_⟩
  · have e : gC U (fun r => if r = n then ⟨a, c⟩ else A r) (n + 1) = l ++ [.slice a X.n c] := by
      rw [el, gC, gC, List.range_succ, List.map_append]
      congr 1
      · apply List.map_congr_left
        intro r hr
        have hr := List.mem_range.1 hr
        simp only [if_neg (show ¬ r = n by omega), hU r hr]
      · simp [hX]
    rw [e]; exact hown
  · refine upto_more (fun r hr => ?_) ?_
    · simp only [if_neg (show ¬ r = n by omega), hU r hr]
      refine ints_same (h2 r hr) (fun ne => ?_) (Nat.le_trans hW.size hg.size)
      have h := h3 r hr ne
      rw [hvq _ (Nat.lt_of_lt_of_le h.2.1 hW.size) h.2.2]
      exact hW.block _ h.2.1
    · simp only [if_true, hX]
      exact ints_same hq1 (fun ne => hvq _ (hq2 ne).2 (fun e => by have := hv q e; have := (hq2 ne).1; omega)) hg.size
  · refine upto_more (fun r hr ne => ?_) (fun ne => ?_)
    · simp only [if_neg (show ¬ r = n by omega)]
      rw [hU r hr] at ne
      have h := h3 r hr ne
      refine ⟨h.1, Nat.lt_of_lt_of_le h.2.1 (Nat.le_trans hW.size hg.size), ?_⟩
      rcases hwh with e | e
      · rw [e]; exact h.2.2
      · rw [e]; intro e2; have := Option.some.inj e2; have := hW.size; omega
    · simp only [if_true]
      rw [hX] at ne
      have h := hq2 ne
      refine ⟨by omega, Nat.lt_of_lt_of_le h.2 hg.size, ?_⟩
      rcases hwh with e | e
      · rw [e]; intro e2; have := hv q e2; omega
      · rw [e]; intro e2; have := Option.some.inj e2; omega
  · intro r s hrs hs ne nf
    by_cases es : s = n
    · subst es
      simp only [if_true, if_neg (show ¬ r = s by omega)]
      rw [hU r hrs] at ne
      rw [hX] at nf
      have := (h3 r hrs ne).2.1
      have := (hq2 nf).1
      omega
    · simp only [if_neg es, if_neg (show ¬ r = n by omega)]
      rw [hU r (by omega)] at ne
      rw [hU s (by omega)] at nf
      exact h4 r s hrs (by omega) ne nf
def MiPost (V : Nat → GV) (L : List Nat) (ok : Bool) (w : World) (r : Ending) (w' : World) : Prop :=
  (∃ a cap g A b, r = .returned (.tuple #[.slice a L.length cap, .bool ok]) ∧ GsD w' a g w.heap.size w'.heap.size L.length (anV V L) A b) ∧ Below w.heap.size w w'
theorem MiB.post {W : World} {lo lo0 : Nat} {v : Value} {n : Nat} {V : Nat → GV} (h : MiB W lo v n V) (hlo : lo0 ≤ lo) : ∃ a cap g A b, v = .slice a n cap ∧ GsD W a g lo0 W.heap.size n V A b := by
  obtain ⟨A, b, h1, h2, h3, h4⟩ := h
  rcases Nat.eq_zero_or_pos n with e | e
  · subst e
    obtain ⟨_, h | ⟨g, cap, cur, rfl, _⟩⟩ := h1
    · exact ⟨none, 0, 0, A, b, h.1, ⟨Or.inl rfl, fun i hi => absurd hi (by omega), fun i hi => absurd hi (by omega), fun i hi => absurd hi (by omega), fun i j _ hj => absurd hj (by omega), Nat.le_refl _⟩⟩
    · exact ⟨_, cap, 0, A, b, rfl, ⟨Or.inl rfl, fun i hi => absurd hi (by omega), fun i hi => absurd hi (by omega), fun i hi => absurd hi (by omega), fun i j _ hj => absurd hj (by omega), Nat.le_refl _⟩⟩
  · obtain ⟨g, cap, rfl⟩ := Go.Joins.ownsRow_form h1 e
    have hg := h1.lt g rfl
    refine ⟨_, cap, g, A, b, rfl, ⟨Or.inr ⟨rfl, by omega, hg.2⟩, fun i hi => ?_, h2, fun i hi ne => ?_, fun i j hij hj ne nf => by have := h4 i j hij hj ne nf; omega, Nat.le_refl _⟩⟩
    · rw [h1.cellAt i (by simpa using hi)]
      simp [gC, hi]
    · have := h3 i hi ne
      refine ⟨by omega, this.2.1, fun e2 => this.2.2 ?_⟩
      rw [e2]; rfl
theorem mi_no {V : Nat → GV} {w w' : World} (hb : Below w.heap.size w w') : MiPost V [] false w (.returned (.tuple #[.slice none 0 0, .bool false])) w' := by
  refine ⟨⟨none, 0, w.heap.size, fun _ => default, fun _ => 0, rfl, ⟨Or.inl rfl, fun i hi => absurd hi (by simp), fun i hi => absurd hi (by simp), fun i hi => absurd hi (by simp), fun i j _ hj => absurd hj (by simp), Nat.le_refl _⟩⟩, hb⟩

set_option maxRecDepth 100000 in
set_option maxHeartbeats 4000000 in
theorem minimalOf_any (m : Int) (a : Option Addr) (n cap : Nat) (V : Nat → GV) (A : Nat → GA) (w : World) (hn : n ≤ 1048576) (hz : ∀ i, i < n → (V i).n ≤ 1048576) (hs : GsS w a n V A) :
    Calls Try.prog 29 #[.int .i64 m, .slice a n cap] w (MiPost V (miL V n m) (gsB V n m) w) := by
  have hmf : ∀ (fn : Fn) (first cap : Array Value) (w : World), (Instr.makeFunc fn first cap).run Try.prog w = .ok (.func fn first cap) w := fun _ _ _ _ => rfl
  obtain ⟨i0, hi0, hz0, hz1, hz2⟩ := info_parts info_group
  go_enter Try.func29, Try.ntmps29
  go_wp2_with fail
  refine (setsFrom_any _ _ _ V A m _ hn hz hs).mono ?_
  clear hz hs
  rintro r w1 ⟨⟨hg, rfl⟩ | ⟨hg, a1, cap1, rfl, hS, hc, hcm⟩, hb⟩
  · have HN : Hid (gsB V n m = false ∧ Below w.heap.size w w1) := ⟨hg, hb⟩
    clear hg hb
    go_wp2
    go_ret2
    rw [HN.out.1, show miL V n m = [] by simp [miL, HN.out.1]]
    exact mi_no HN.out.2
  have hn40 : n ≤ 40 := (gsB_iff.1 hg).1
  have HG : Hid (gsB V n m = true ∧ Below w.heap.size w w1 ∧ Sl w1 a1 n 1 (wF (sw V))) := ⟨hg, hb, hS⟩
  have hww : w.heap.size ≤ w1.heap.size := hb.size
  clear hg hb hS
  unfold maxLen at hcm
  go_wp2
  go_loopw [21, 8, 9, 10] (fun x v _ _ wr => ∃ i : Nat, i ≤ n ∧ x = .int .i64 i ∧ MiB wr w1.heap.size v (kp V n i).length (anV V (kp V n i)) ∧ Below w1.heap.size w1 wr) (fun x _ _ _ _ => n - (intOf x).toNat)
  case atStart => exact ⟨0, Nat.zero_le _, rfl, MiB.nil _ _ _, Below.refl _ _⟩
  case round =>
    obtain ⟨i, hi, rfl, hM, hBr⟩ := hrel
    have HH : Hid (MiB wr w1.heap.size u8 (kp V n i).length (anV V (kp V n i)) ∧ Below w1.heap.size w1 wr) := ⟨hM, hBr⟩
    clear hM
    by_cases hlt : i < n
    · have HR : Hid (Sl wr a1 n 1 (wF (sw V))) := HG.out.2.2.kept hBr
      rcases HR.out with h | ⟨b, off, rfl, hbs, hE⟩
      · omega
      have hlt' : (i : Int) < (n : Int) := by omega
      have c0 := w_cell hE hlt
      have hle2 : (i : Int) ≤ (cap1 : Int) := by omega
      have HT : Hid (Sl wr (some ⟨b, off, none⟩) i 1 (wF (sw V))) := HR.out.less (by omega)
      have HL : Hid (sw V i < 65536 ∧ ∀ j, j < n → sw V j < 65536) := ⟨Nat.lt_trans (sw_lt HG.out.1 hlt) (by omega), fun j hj => Nat.lt_trans (sw_lt HG.out.1 hj) (by omega)⟩
      have HKB : Hid (keepB V n i = (!(anyN (fun k => mtB (sw V i) (sw V k)) n) && !(anyN (fun k => sw V i == sw V k) i))) := rfl
      have HBL : Hid (bitsZ (sw V i) 12 = listZ (V i).x (V i).n) := by have h := grB_iff.1 ((gsB_iff.1 HG.out.1).2.2 i hlt); exact bits_list h.1.2 h.2
      clear hE hBr
      have hn1 : n ≤ 1048576 := by omega
      have hi1 : i ≤ 1048576 := by omega
      cases hk1 : anyN (fun k => mtB (sw V i) (sw V k)) n
      · cases hk2 : anyN (fun k => sw V i == sw V k) i
        · have HKT : Hid (keepB V n i = true) := Hid.intro (by rw [HKB.out, hk1, hk2]; rfl)
          have HK2 : Hid (kp V n (i + 1) = kp V n i ++ [i]) := kp_yes HKT.out
          have HY := Hid.intro (And.intro hk1 hk2)
          have hkl := kp_len V n i
          clear hk1 hk2
          generalize hse : sw V i = s at *
          have HSE : Hid (sw V i = s) := hse
          clear hse
          go_wp2_with (first
            | (go_at_call 64; refine (containsMore_any _ _ _ (sw V) s _ hn1 HL.out.2 HL.out.1 HR.out).mono ?_; rintro e w' ⟨rfl, hw⟩; have hw := hw.symm; subst hw; rw [HY.out.1])
            | (go_at_call 69; refine (containsW_any _ _ _ (sw V) s _ hi1 HT.out).mono ?_; rintro e w' ⟨rfl, hw⟩; have hw := hw.symm; subst hw; rw [HY.out.2]))
          refine (groupWhere_any _ _ HL.out.1).mono ?_
          rintro r w2 ⟨⟨a5, cap5, rfl, hi5⟩, hb2⟩
          obtain ⟨l0, ho0⟩ := HH.out.1.own
          have H2 : Hid (MiB w2 w1.heap.size u8 (kp V n i).length (anV V (kp V n i)) ∧ Below w1.heap.size w1 w2 ∧ w2.ownsRow w1.heap.size 25 1 u8 (kp V n i).length l0 ∧ Below wr.heap.size wr w2) := ⟨HH.out.1.next hb2, below_next HH.out.2 hb2, own_next ho0 hb2, hb2⟩
          have HI : Hid (IntS w2 wr.heap.size w2.heap.size a5 (V i).n (V i).x ∧ (bitsZ s 12).length = (V i).n) := by
            have e : (bitsZ s 12).length = (V i).n := by rw [HBL.out]; simp [listZ]
            refine ⟨?_, e⟩
            rw [← e]
            refine hi5.congr (fun j hj => ?_)
            rw [HBL.out]
            exact listZ_at (by rw [e] at hj; exact hj)
          have hel : (bitsZ s 12).length = (V i).n := HI.out.2
          rw [hel]
          have hzw : w1.heap.size ≤ w2.heap.size := H2.out.2.1.size
          have hzr : wr.heap.size ≤ w2.heap.size := hb2.size
          have hzr1 : w1.heap.size ≤ wr.heap.size := HH.out.2.size
          have HO : Hid (wr.ownsRow w1.heap.size 25 1 u8 (kp V n i).length l0) := ho0
          clear hi5 hb2 ho0 hel HL HR HT HY HBL c0
          generalize hkk : kp V n i = L at *
          have HKK : Hid (kp V n i = L) := hkk
          clear hkk
          generalize hVi : V i = G at *
          have HVI : Hid (V i = G) := hVi
          clear hVi
          go_wp2_with (first
            | (at_builtin; refine wpList_append_own_at _ rfl (.tmp 39) (.tmp 43) 38 rfl w1.heap.size 25 i0 (.agg #[.slice none 0 0]) 1 24 Try.underlying38 hi0 hz0 hz1 hz2 rfl (by decide) u8 L.length l0 rfl (World.ownsRow.alloc H2.out.2.2.1 _) ⟨_, 0, none⟩ 1 1 [.slice a5 G.n cap5] rfl rfl (one_cell _ _ _) (by intro u hu; simp at hu; subst hu; rfl) (by unfold maxLen; omega) (by omega) (by simp <;> omega) ?_; intro v4 w4 hown hgrow hnil hwh))
          have hba : Below w2.heap.size w2 (w2.alloc (.cells #[.slice a5 G.n cap5] 25)) := Go.Joins.below_alloc1 _ _
          have HF : Hid (MiB w4 w1.heap.size v4 (L ++ [i]).length (anV V (L ++ [i])) ∧ Below w1.heap.size w1 w4) := by
            refine ⟨?_, (H2.out.2.1.alloc H2.out.2.1.size _).grown hgrow (by simp; omega) (fun j hj => (H2.out.2.2.1.lt j hj).1)⟩
            rw [List.length_append]
            refine MiB.app (W0 := wr) (X := G) (lo2 := wr.heap.size) (H2.out.1.next hba) (World.ownsRow.alloc H2.out.2.2.1 _) hzr1 (fun k hk => (HO.out.lt k hk).2) (fun _ _ _ => trivial) HH.out.1 (Nat.le_refl _) (H2.out.2.2.2.trans (hba.mono hzr)) ?_ hgrow hown (by simpa using hwh) (fun r hr => anV_old hr) (by rw [anV_new]; exact HVI.out)
            have := HI.out.1.below hba (Nat.le_refl _)
            exact this.wide (Nat.le_refl _) (by simp)
          clear hown hgrow hnil hwh hba
          go_wp2
          go_roundw
          case rel => exact ⟨i + 1, by omega, by go_num, by rw [HK2.out]; exact HF.out.1, HF.out.2⟩
          case measure => simp [intOf]; omega
        · have HKF : Hid (kp V n (i + 1) = kp V n i) := kp_no (by rw [HKB.out, hk1, hk2]; rfl)
          have HY := Hid.intro (And.intro hk1 hk2)
          clear hk1 hk2
          generalize sw V i = s at *
          go_wp2_with (first
            | (go_at_call 64; refine (containsMore_any _ _ _ (sw V) s _ hn1 HL.out.2 HL.out.1 HR.out).mono ?_; rintro e w' ⟨rfl, hw⟩; have hw := hw.symm; subst hw; rw [HY.out.1])
            | (go_at_call 69; refine (containsW_any _ _ _ (sw V) s _ hi1 HT.out).mono ?_; rintro e w' ⟨rfl, hw⟩; have hw := hw.symm; subst hw; rw [HY.out.2]))
          go_roundw
          case rel => exact ⟨i + 1, by omega, by go_num, by rw [HKF.out]; exact HH.out.1, HH.out.2⟩
          case measure => simp [intOf]; omega
      · have HKF : Hid (kp V n (i + 1) = kp V n i) := kp_no (by rw [HKB.out, hk1]; rfl)
        have HY := Hid.intro hk1
        clear hk1
        generalize sw V i = s at *
        go_wp2_with (go_at_call 64; refine (containsMore_any _ _ _ (sw V) s _ hn1 HL.out.2 HL.out.1 HR.out).mono ?_; rintro e w' ⟨rfl, hw⟩; have hw := hw.symm; subst hw; rw [HY.out])
        go_roundw
        case rel => exact ⟨i + 1, by omega, by go_num, by rw [HKF.out]; exact HH.out.1, HH.out.2⟩
        case measure => simp [intOf]; omega
    · have hin : i = n := by omega
      subst hin
      obtain ⟨a6, cap6, g6, A6, b6, rfl, hD⟩ := HH.out.1.post hww
      have HP : Hid (MiPost V (miL V i m) (gsB V i m) w (.returned (.tuple #[.slice a6 (kp V i i).length cap6, .bool true])) wr) := by
        show MiPost V (miL V i m) (gsB V i m) w (.returned (.tuple #[.slice a6 (kp V i i).length cap6, .bool true])) wr
        rw [show miL V i m = kp V i i by simp [miL, HG.out.1], HG.out.1]
        exact ⟨⟨a6, cap6, g6, A6, b6, rfl, hD⟩, HG.out.2.1.trans (hBr.mono hww)⟩
      clear hD hBr HH
      generalize (kp V i i).length = l at *
      go_wp2
      go_ret2
      exact HP.out
end Go.Proofs.Ytalnmollgielcaa
