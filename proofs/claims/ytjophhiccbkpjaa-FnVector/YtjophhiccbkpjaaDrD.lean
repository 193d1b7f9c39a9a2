/- The draw of two clocks: DrawCompareClock, DrawMergeClock. -/
import Derived.Test.YtjophhiccbkpjaaDrC
import Derived.Deep.RegionHeld
namespace Go.Proofs.Ytjophhiccbkpjaa
open Go.RowKit
set_option linter.unusedVariables false

/-- The two answers' cells, the first clock, its numbers, the cursor. -/
def CcH (W w : World) (g : Nat) (a : Option Addr) (n cap : Nat) (X : Nat → Int) (t s s' b o m t5 : Nat) (Z : Nat → Int) : Prop :=
  Cur W g a n cap X t ∧ Below w.heap.size w W ∧ Bx W s [.slice none 0 0] ∧ Bx W s' [.slice none 0 0] ∧ Bx W t5 [.slice (some ⟨b, o, none⟩) m m] ∧ Vec W b Z
section
variable {W W' w : World} {g : Nat} {a : Option Addr} {n cap : Nat} {X : Nat → Int} {t t' s s' b o m t5 : Nat} {Z : Nat → Int}
theorem CcH.draw (h : CcH W w g a n cap X t s s' b o m t5 Z) (hd : Drew g a n cap X t' W W') (hg : w.heap.size ≤ g) (h1 : s < g) (h2 : s' < g) (h3 : g < t5) (h4 : g < b) : CcH W' w g a n cap X t' s s' b o m t5 Z := by
  obtain ⟨k1, k2, k3, k4, k5, k6⟩ := h
  exact ⟨hd.1, below_trn k2 hd.2 hg, k3.trn hd.2 (Or.inl h1), k4.trn hd.2 (Or.inl h2), k5.trn hd.2 (Or.inr h3), k6.trn hd.2 (Or.inr h4)⟩
theorem CcH.next (h : CcH W w g a n cap X t s s' b o m t5 Z) (hb : Below W.heap.size W W') : CcH W' w g a n cap X t s s' b o m t5 Z := by
  obtain ⟨k1, k2, k3, k4, k5, k6⟩ := h
  exact ⟨k1.next hb, below_next k2 hb, k3.next hb, k4.next hb, k5.next hb, k6.below hb k6.2⟩
end
theorem ready_two {P : Program} {ops : Array Oper} {Q : Exit → Act → World → Prop} {md : Region.Mode} {S : World → Prop} {fuel : Nat} {listed : Array Bool} {a : Act} {w : World} (i j : Nat) (oi oj : Oper)
    (hr : Region.ready md ops listed = [i, j]) (hoi : ops[i]? = some oi) (hoj : ops[j]? = some oj) (hgi : Region.wanted oi (yielded ops a.tmps) = true) (hgj : Region.wanted oj (yielded ops a.tmps) = true)
    (hi : ∀ K' : Act → World → Prop, Shut (∀ a w, S w → (S w → wpAnyH P md ops Q S fuel (listed.setIfInBounds i true) a w) → K' a w) → Oper.wp P oi a w K' Q)
    (hj : ∀ K' : Act → World → Prop, Shut (∀ a w, S w → (S w → wpAnyH P md ops Q S fuel (listed.setIfInBounds j true) a w) → K' a w) → Oper.wp P oj a w K' Q) : wpAnyH P md ops Q S (fuel + 1) listed a w :=
  wpAnyH_ready hr (by simp) (AllReadyH.cons hoi (fun K' hK => by rw [if_pos hgi]; exact hi K' hK) (AllReadyH.cons hoj (fun K' hK => by rw [if_pos hgj]; exact hj K' hK) AllReadyH.nil))
def CcDrew (w : World) (r : Ending) (w' : World) : Prop := ∃ (a1 : Option Addr) (n1 c1 : Nat) (Z1 : Nat → Int) (a2 : Option Addr) (n2 c2 : Nat) (Z2 : Nat → Int),
  r = .returned (.tuple #[.agg #[.slice a1 n1 c1], .agg #[.slice a2 n2 c2]]) ∧ n1 ≤ 6 ∧ n2 ≤ 6 ∧ Sl w' a1 n1 1 (intF Z1) ∧ Sl w' a2 n2 1 (intF Z2) ∧ Below w.heap.size w w' ∧ (∀ b off, a1 = some ⟨b, off, none⟩ → w.heap.size ≤ b) ∧ ∀ b off, a2 = some ⟨b, off, none⟩ → w.heap.size ≤ b
theorem Vec.sl {w : World} {b o m : Nat} {Z : Nat → Int} (h : Vec w b Z) (hm : o + m ≤ 6) : Sl w (some ⟨b, o, none⟩) m 1 (intF fun i => Z (o + i)) := by
  refine Or.inr ⟨b, o, rfl, h.2, fun i hi j hj => ?_⟩
  have : j = 0 := by omega
  subst this
  rw [Nat.mul_one, Nat.add_zero]
  exact (h.1 (o + i) (by omega)).1
theorem ints_at {w : World} {B C g m q : Nat} {L : Nat → Int} (h : IntS w B C (some ⟨g, 0, none⟩) m L) (hq : q < m) : w.cell? ⟨g, q, none⟩ = some (.int .i64 (L q)) ∧ w.frozen? ⟨g, q, none⟩ = false ∧ g < w.heap.size := by
  rcases h with h | ⟨g', e, _, _, hl, hx⟩
  · omega
  · cases e; exact ⟨(hx q hq).1, (hx q hq).2, hl⟩
theorem Sl.set {w : World} {a : Option Addr} {n : Nat} {Z : Nat → Int} {g q : Nat} {v : Value} (h : Sl w a n 1 (intF Z)) (hg : ∀ b off, a = some ⟨b, off, none⟩ → g ≠ b) : Sl (w.setCell ⟨g, q, none⟩ v) a n 1 (intF Z) := by
  rcases h with h | ⟨b, off, e, h1, h2⟩
  · exact Or.inl h
  · exact Or.inr ⟨b, off, e, by simpa using h1, fun i hi j hj => by rw [World.cell?_setCell_other _ _ _ _ (addr_ne' (hg b off e))]; exact h2 i hi j hj⟩

set_option maxRecDepth 100000 in
set_option maxHeartbeats 4000000 in
theorem drawCompare_any (a : Option Addr) (n cap : Nat) (X : Nat → Int) (w : World) (hn : n ≤ 9223372036854775807) (hs : Sl w a n 1 (byF X)) (hX : ∀ i, i < n → 0 ≤ X i ∧ X i ≤ 255) :
    Calls Try.prog 62 #[.slice a n cap] w (CcDrew w) := by
  obtain ⟨i0, hi0, hz0, hz1, hz2⟩ := info_parts info_int
  obtain ⟨W0, hW0⟩ : ∃ z, z = (w.alloc (.cells #[.slice none 0 0] 36)).alloc (.cells #[.slice none 0 0] 36) := ⟨_, rfl⟩
  have hz0' : W0.heap.size = w.heap.size + 1 + 1 := by rw [hW0]; simp
  have hb0 : Below w.heap.size w W0 := by rw [hW0]; exact ((Below.refl _ _).alloc (Nat.le_refl _) _).alloc (by simp) _
  have hT0 : Bx W0 w.heap.size [.slice none 0 0] := by rw [hW0]; exact (Bx.new w [.slice none 0 0] _).next (Go.Joins.below_alloc1 _ _)
  have hT1 : Bx W0 (w.heap.size + 1) [.slice none 0 0] := by rw [hW0]; have := Bx.new (w.alloc (.cells #[.slice none 0 0] 36)) [.slice none 0 0] 36; simpa using this
  have hC0 : Cur (W0.alloc (.cells #[.slice a n cap, .int .i64 0, .int .u64 0] 91)) W0.heap.size a n cap X 0 := Cur.new _ (hs.below hb0 (Nat.le_refl _)) hn hX
  have hbN := Go.Joins.below_alloc1 W0 (.cells #[.slice a n cap, .int .i64 0, .int .u64 0] 91)
  obtain ⟨W1, hW1⟩ : ∃ z, z = W0.alloc (.cells #[.slice a n cap, .int .i64 0, .int .u64 0] 91) := ⟨_, rfl⟩
  rw [← hW1] at hC0 hbN
  have H0 : Hid (Cur W1 W0.heap.size a n cap X 0 ∧ Below w.heap.size w W1 ∧ Bx W1 w.heap.size [.slice none 0 0] ∧ Bx W1 (w.heap.size + 1) [.slice none 0 0]) := ⟨hC0, hb0.trans (hbN.mono hb0.size), hT0.next hbN, hT1.next hbN⟩
  clear hT0 hT1 hC0 hbN hb0 hs hX
  rw [hz0'] at H0
  have hzW : W1.heap.size = w.heap.size + 1 + 1 + 1 := by rw [hW1]; simp [hz0']
  clear hz0'
  rw [hW0] at hW1
  clear hW0
  go_enter Try.func62, Try.ntmps62
  go_wp2_with fail
  rw [← hW1]
  clear hW1
  refine (clock_any _ _ _ _ _ _ _ (by omega) H0.out.1).mono ?_
  rintro _ w1 ⟨b, o, ho, rfl, hb1, ⟨Z, hZ⟩, hd⟩
  obtain ⟨m, hm⟩ : ∃ m, m = 6 - o := ⟨_, rfl⟩
  rw [← hm]
  have hom : o + m ≤ 6 := by omega
  have hm0 : 0 < m := by omega
  clear hm
  have hz1' : W1.heap.size ≤ w1.heap.size := hd.2.2.2.2.1
  have H1 : Hid (CcH (w1.alloc (.cells #[.slice (some ⟨b, o, none⟩) m m] 36)) w (w.heap.size + 1 + 1) a n cap X 20 w.heap.size (w.heap.size + 1) b o m w1.heap.size Z) :=
    ⟨hd.1.next (Go.Joins.below_alloc1 _ _), (below_trn H0.out.2.1 hd.2 (by omega)).alloc (by omega) _, (H0.out.2.2.1.trn hd.2 (by omega)).alloc _, (H0.out.2.2.2.trn hd.2 (by omega)).alloc _, Bx.new w1 [.slice (some ⟨b, o, none⟩) m m] _, hZ.below (Go.Joins.below_alloc1 _ _) hZ.2⟩
  have hbl : b < w1.heap.size := hZ.2
  clear hd hZ H0
  obtain ⟨s, hs⟩ : ∃ s, s = w.heap.size := ⟨_, rfl⟩
  obtain ⟨t5, ht5⟩ : ∃ t5, t5 = w1.heap.size := ⟨_, rfl⟩
  obtain ⟨w2, hw2⟩ : ∃ w2, w2 = w1.alloc (.cells #[.slice (some ⟨b, o, none⟩) m m] 36) := ⟨_, rfl⟩
  have hz2' : w2.heap.size = t5 + 1 := by rw [hw2, ht5]; simp
  rw [← hs, ← ht5, ← hw2] at H1
  go_wp2_with fail
  rw [← hs, ← ht5, ← hw2]
  clear hw2
  have hsw : w.heap.size = s := hs.symm
  have hst : s + 1 + 1 < t5 := by omega
  have hsb : s + 1 + 1 < b := by omega
  have hbt : b < t5 := by omega
  clear hb1 hbl hz1' hzW ht5 hs
  refine (one_any _ _ _ _ _ _ _ _ (by omega) (by omega) H1.out.1).mono ?_
  rintro _ w3 ⟨b3, rfl, hd⟩
  have hz3 : w2.heap.size ≤ w3.heap.size := hd.2.2.2.2.1
  have H3 : Hid (CcH w3 w (s + 1 + 1) a n cap X 22 s (s + 1) b o m t5 Z) := H1.out.draw hd (by omega) (by omega) (by omega) (by omega) (by omega)
  clear hd H1
  cases b3
  · have H3d : Hid (CcH w3.drew w (s + 1 + 1) a n cap X 22 s (s + 1) b o m t5 Z) := H3.out.next (Below.refl _ _).drew
    have y0 := H3d.out.2.2.2.2.1.cell 0 rfl
    have yl := H3d.out.2.2.2.2.1.2
    clear H3
    go_upto_region 8 with fail
    refine wp_region_noPanic ?_
    refine wp_region_held_drew (S := fun W => W.cell? ⟨t5, 0, none⟩ = some (.slice (some ⟨b, o, none⟩) m m)) (by kernel_rfl) y0 (fun hHeld => ?_)
    refine take_v (v := ?_) 0 ⟨some 38, Op.load 36 (Operand.tmp 5), _, _, _, none⟩ rfl (fun _ _ _ h => h) ?_ hHeld ?_
    rotate_left
    · (intro W hSW; obtain sw0 := hSW; go_simp <;> (try with_reducible rfl))
    refine take_v (v := ?_) 1 ⟨some 39, Op.move (Operand.tmp 4), _, _, _, none⟩ rfl (fun _ _ _ h => h) ?_ hHeld ?_
    rotate_left
    · (intro W _; go_simp <;> (try with_reducible rfl))
    refine ready_call 2 ⟨some 40, Op.call { callee := Callee.value (Operand.func 75), args := #[Operand.tmp 39], argTypes := #[88] }, _, _, _, none⟩ (by kernel_rfl) rfl (by kernel_rfl) (fun K hK => ?_)
    go_wp2_with fail
    refine (clock_any _ _ _ _ _ _ _ (by omega) H3d.out.1).mono ?_
    rintro _ w4 ⟨b', o', ho', rfl, hb4, ⟨Z', hZ'⟩, hd⟩
    have hb4' : w3.heap.size ≤ b' := hb4
    obtain ⟨m', hm'⟩ : ∃ m', m' = 6 - o' := ⟨_, rfl⟩
    rw [← hm']
    have hom' : o' + m' ≤ 6 := by omega
    clear hm'
    have H4 : Hid (CcH w4 w (s + 1 + 1) a n cap X (22 + 20) s (s + 1) b o m t5 Z ∧ Vec w4 b' Z') := ⟨H3d.out.draw hd (by omega) (by omega) (by omega) (by omega) (by omega), hZ'⟩
    have y4 := H4.out.1.2.2.2.2.1.cell 0 rfl
    have x0 := H4.out.1.2.2.1.cell 0 rfl
    have xf := H4.out.1.2.2.1.frz 0 (by simp)
    have xl := H4.out.1.2.2.1.2
    have q0 := H4.out.1.2.2.2.1.cell 0 rfl
    have qf := H4.out.1.2.2.2.1.frz 0 (by simp)
    have ql := H4.out.1.2.2.2.1.2
    clear hd hZ' hb4
    refine hK.out _ _ y4 (fun hHeld => ?_)
    clear hK K
    refine ready_call 3 ⟨none, Op.store 36 (Operand.tmp 2) (Operand.tmp 38), _, _, _, none⟩ (by kernel_rfl) rfl (by kernel_rfl) (fun K hK => ?_)
    go_wp2_with fail
    refine hK.out _ _ (by rw [World.cell?_setCell_other _ _ _ _ (addr_ne' (by omega))]; exact y4) (fun hHeld => ?_)
    clear hK K
    refine ready_call 4 ⟨none, Op.store 36 (Operand.tmp 3) (Operand.tmp 40), _, _, _, none⟩ (by kernel_rfl) rfl (by kernel_rfl) (fun K hK => ?_)
    go_wp2_with fail
    refine hK.out _ _ (by rw [World.cell?_setCell_other _ _ _ _ (addr_ne' (by omega)), World.cell?_setCell_other _ _ _ _ (addr_ne' (by omega))]; exact y4) (fun hHeld => ?_)
    clear hK K
    refine wpAnyH_done (by kernel_rfl) ?_ _
    refine NoPanic.normal ?_
    have HF : Hid (CcDrew w (.returned (.tuple #[.agg #[.slice (some ⟨b, o, none⟩) m m], .agg #[.slice (some ⟨b', o', none⟩) m' m']])) ((w4.setCell ⟨s, 0, none⟩ (.slice (some ⟨b, o, none⟩) m m)).setCell ⟨s + 1, 0, none⟩ (.slice (some ⟨b', o', none⟩) m' m'))) := by
      refine ⟨_, m, m, _, _, m', m', _, rfl, by omega, by omega, ((H4.out.1.2.2.2.2.2.sl hom).set (fun b1 o1 e => ?_)).set (fun b1 o1 e => ?_), ((H4.out.2.sl hom').set (fun b1 o1 e => ?_)).set (fun b1 o1 e => ?_), (H4.out.1.2.1.setCell (p := ⟨s, 0, none⟩) (by show w.heap.size ≤ s; omega) _).setCell (p := ⟨s + 1, 0, none⟩) (by show w.heap.size ≤ s + 1; omega) _, fun b1 o1 e => ?_, fun b1 o1 e => ?_⟩
      all_goals cases e; omega
    clear H4
    go_wp2
    exact bodyPost_ret (v := .tuple #[.agg #[.slice (some ⟨b, o, none⟩) m m], .agg #[.slice (some ⟨b', o', none⟩) m' m']]) (by simp [results, Try.results62, go_sem, *]) rfl HF.out
  · have H3a : Hid (Vec (w3.alloc (.cells #[] 3)) b Z ∧ Below w3.heap.size w3 (w3.alloc (.cells #[] 3))) := ⟨H3.out.2.2.2.2.2.below (Go.Joins.below_alloc1 _ _) H3.out.2.2.2.2.2.2, Go.Joins.below_alloc1 _ _⟩
    have y0 := H3.out.2.2.2.2.1.cell 0 rfl
    have yl := H3.out.2.2.2.2.1.2
    have HNW : Hid (∀ j u, ((List.range m).map fun i => Value.int .i64 (Z (o + i)))[j]? = some u → (w3.alloc (.cells #[] 3)).cell? ((⟨b, o, none⟩ : Addr).add j) = some u) := by
      intro j u hj
      have hjm : j < m := by
        rcases Nat.lt_or_ge j m with h | h
        · exact h
        · rw [List.getElem?_eq_none (by simpa using h)] at hj; cases hj
      rw [addr_add, (H3a.out.1.1 (o + j) (by omega)).1]
      simpa [hjm] using hj
    have hm6 : m ≤ 6 := by omega
    have hm0' : (0 : Int) < (m : Int) := by omega
    go_upto_region 6 with (first
      | (at_builtin; refine wpList_append_own_at _ rfl (.tmp 14) (.tmp 16) 25 rfl w3.heap.size 3 i0 (.int .i64 0) 1 8 Try.underlying25 hi0 hz0 hz1 hz2 rfl (by decide) (.slice (some ⟨w3.heap.size, 0, none⟩) 0 0) 0 [] rfl (World.ownsRow_lit w3 #[] 0 (Nat.le_refl _) (by unfold maxLen; omega) rfl) ⟨b, o, none⟩ m m ((List.range m).map fun i => Value.int .i64 (Z (o + i))) rfl (by simp) HNW.out (by intro u hu; simp at hu; obtain ⟨y, _, rfl⟩ := hu; rfl) (by unfold maxLen; omega) (by omega) (by simp) ?_; intro v4 w4 hown hgrow hnil hwhere; rw [Nat.zero_add, List.nil_append] at hown; obtain ⟨b2, c2, rfl, _⟩ := World.ownsRow.form hown hm0)
      | go_in)
    have hB4 : Below w3.heap.size w3 w4 := H3a.out.2.grown hgrow (by simp) (fun j hj => by cases hj; exact Nat.le_refl _)
    have hb2 := hown.lt b2 rfl
    obtain ⟨t6, ht6⟩ : ∃ t6, t6 = w4.heap.size := ⟨_, rfl⟩
    obtain ⟨w5, hw5⟩ : ∃ w5, w5 = w4.alloc (.cells #[.slice (some ⟨b2, 0, none⟩) m c2] 36) := ⟨_, rfl⟩
    have hI5 : IntS w5 b2 (b2 + 1) (some ⟨b2, 0, none⟩) m (fun i => Z (o + i)) := by
      have ho5 : w5.ownsRow w3.heap.size 3 1 (.slice (some ⟨b2, 0, none⟩) m c2) m ((List.range m).map fun i => Value.int .i64 (Z (o + i))) := by rw [hw5]; exact hown.alloc _
      refine Or.inr ⟨b2, rfl, Nat.le_refl _, by omega, (ho5.lt b2 rfl).2, fun i hi => ⟨?_, ho5.frozenAt i⟩⟩
      rw [World.ownsRow.cellAt ho5 i (by omega)]; simp [hi]
    have hB5 : Below w3.heap.size w3 w5 := by rw [hw5]; exact hB4.alloc hB4.size _
    have H5 : Hid (CcH w5.drew w (s + 1 + 1) a n cap X 22 s (s + 1) b o m t5 Z ∧ Bx w5.drew t6 [.slice (some ⟨b2, 0, none⟩) m c2] ∧ IntS w5.drew b2 (b2 + 1) (some ⟨b2, 0, none⟩) m (fun i => Z (o + i))) :=
      ⟨(H3.out.next hB5).next (Below.refl _ _).drew, (by rw [hw5, ht6]; exact (Bx.new w4 [.slice (some ⟨b2, 0, none⟩) m c2] _).next (Below.refl _ _).drew), hI5⟩
    have u0 : w5.cell? ⟨t6, 0, none⟩ = some (.slice (some ⟨b2, 0, none⟩) m c2) := H5.out.2.1.cell 0 rfl
    have ul : t6 < w5.heap.size := H5.out.2.1.2
    have hb2t : b2 < t6 := by omega
    have hb23 : w3.heap.size ≤ b2 := hb2.1
    clear hown hgrow hnil hwhere hB4 hI5 hB5 HNW H3a H3 y0 yl hb2
    rw [← ht6, ← hw5]
    clear hw5 ht6
    refine wp_region_noPanic ?_
    refine wp_region_held_drew (S := fun W => W.cell? ⟨t6, 0, none⟩ = some (.slice (some ⟨b2, 0, none⟩) m c2)) (by kernel_rfl) (H5.out.2.1.cell 0 rfl) (fun hHeld => ?_)
    refine take_v (v := ?_) 0 ⟨some 23, Op.fieldAddr 36 (Operand.tmp 6) 0, _, _, _, none⟩ rfl (fun _ _ _ h => h) ?_ hHeld ?_
    rotate_left
    · (intro W _; go_simp <;> (try with_reducible rfl))
    refine take_v (v := ?_) 1 ⟨some 24, Op.load 25 (Operand.tmp 23), _, _, _, none⟩ rfl (fun _ _ _ h => h) ?_ hHeld ?_
    rotate_left
    · (intro W hSW; obtain sw0 := hSW; go_simp <;> (try with_reducible rfl))
    refine take_v (v := ?_) 2 ⟨some 25, Op.move (Operand.tmp 4), _, _, _, none⟩ rfl (fun _ _ _ h => h) ?_ hHeld ?_
    rotate_left
    · (intro W _; go_simp <;> (try with_reducible rfl))
    refine take_v (v := ?_) 3 ⟨some 26, Op.fieldAddr 36 (Operand.tmp 6) 0, _, _, _, none⟩ rfl (fun _ _ _ h => h) ?_ hHeld ?_
    rotate_left
    · (intro W _; go_simp <;> (try with_reducible rfl))
    refine take_v (v := ?_) 4 ⟨some 27, Op.load 25 (Operand.tmp 26), _, _, _, none⟩ rfl (fun _ _ _ h => h) ?_ hHeld ?_
    rotate_left
    · (intro W hSW; obtain sw0 := hSW; go_simp <;> (try with_reducible rfl))
    refine take_v (v := ?_) 5 ⟨some 28, Op.call { callee := Callee.builtin Builtin.len, args := #[Operand.tmp 27], argTypes := #[25] }, _, _, _, none⟩ rfl (fun _ _ _ h => h) ?_ hHeld ?_
    rotate_left
    · (intro W _; go_simp <;> (try with_reducible rfl))
    refine take_v (v := ?_) 9 ⟨some 32, Op.move (Operand.tmp 4), _, _, _, none⟩ rfl (fun _ _ _ h => h) ?_ hHeld ?_
    rotate_left
    · (intro W _; go_simp <;> (try with_reducible rfl))
    refine ready_call 6 ⟨some 29, Op.call { callee := Callee.value (Operand.func 77), args := #[Operand.tmp 25, Operand.tmp 28], argTypes := #[88, 3] }, _, _, _, none⟩ (by kernel_rfl) rfl (by kernel_rfl) (fun K hK => ?_)
    go_wp2_with fail
    refine (pick_any _ _ _ _ _ _ _ _ (by omega) (by omega) H5.out.1.1).mono ?_
    rintro _ w6 ⟨x6, hx6, rfl, hd⟩
    have H6 : Hid (CcH w6 w (s + 1 + 1) a n cap X 24 s (s + 1) b o m t5 Z ∧ Bx w6 t6 [.slice (some ⟨b2, 0, none⟩) m c2] ∧ IntS w6 b2 (b2 + 1) (some ⟨b2, 0, none⟩) m (fun i => Z (o + i))) := ⟨H5.out.1.draw hd (by omega) (by omega) (by omega) (by omega) (by omega), H5.out.2.1.trn hd.2 (Or.inr (by omega)), Turned.ints (show Turned _ _ _ _ from hd.2) H5.out.2.2 (Or.inr (by omega))⟩
    obtain ⟨y, hy, hyx⟩ : ∃ y : Nat, y < m ∧ x6 = (y : Int) := ⟨x6.toNat, by omega, by omega⟩
    subst hyx
    clear hx6 hd H5
    have hyk : (y : Int) < (m : Int) := by omega
    have S6 := H6.out.2.1.cell 0 rfl
    obtain ⟨rz6, fz6, hbl6⟩ := ints_at H6.out.2.2 hy
    refine hK.out _ _ S6 (fun hHeld => ?_)
    clear hK K
    refine take_v (v := ?_) 7 ⟨some 30, Op.indexAddr 25 (Operand.tmp 24) (Operand.tmp 29), _, _, _, none⟩ rfl (fun _ _ _ h => h) ?_ hHeld ?_
    rotate_left
    · (intro W _; go_simp <;> (try with_reducible rfl))
    refine ready_two 8 10 ⟨some 31, Op.load 3 (Operand.tmp 30), _, _, _, none⟩ ⟨some 33, Op.call { callee := Callee.value (Operand.func 77), args := #[Operand.tmp 32, Operand.const (Value.int IntKind.i64 2)], argTypes := #[88, 3] }, _, _, _, none⟩ (by kernel_rfl) rfl rfl (by kernel_rfl) (by kernel_rfl) (fun K hK => ?_) (fun K hK => ?_)
    ·
      go_wp2_with fail
      refine hK.out _ _ (by first | exact S7 | exact S6) (fun hHeld => ?_)
      clear hK K
      refine ready_call 10 ⟨some 33, Op.call { callee := Callee.value (Operand.func 77), args := #[Operand.tmp 32, Operand.const (Value.int IntKind.i64 2)], argTypes := #[88, 3] }, _, _, _, none⟩ (by kernel_rfl) rfl (by kernel_rfl) (fun K hK => ?_)
      go_wp2_with fail
      refine (pick_any _ _ _ _ _ _ _ _ (by omega) (by omega) H6.out.1.1).mono ?_
      rintro _ w7 ⟨x7, hx7, rfl, hd⟩
      have H7 : Hid (CcH w7 w (s + 1 + 1) a n cap X 26 s (s + 1) b o m t5 Z ∧ Bx w7 t6 [.slice (some ⟨b2, 0, none⟩) m c2] ∧ IntS w7 b2 (b2 + 1) (some ⟨b2, 0, none⟩) m (fun i => Z (o + i))) := ⟨H6.out.1.draw hd (by omega) (by omega) (by omega) (by omega) (by omega), H6.out.2.1.trn hd.2 (Or.inr (by omega)), Turned.ints (show Turned _ _ _ _ from hd.2) H6.out.2.2 (Or.inr (by omega))⟩
      clear hd H6 hx7
      have S7 := H7.out.2.1.cell 0 rfl
      obtain ⟨rz7, fz7, hbl7⟩ := ints_at H7.out.2.2 hy
      refine hK.out _ _ S7 (fun hHeld => ?_)
      clear hK K
      refine take_v (v := ?_) 11 ⟨some 34, Op.binOp BinOp.add 3 (Operand.tmp 31) (Operand.tmp 33) 3, _, _, _, none⟩ rfl (fun _ _ _ h => h) ?_ hHeld ?_
      rotate_left
      · (intro W _; go_simp <;> (try with_reducible rfl))
      refine take_v (v := ?_) 12 ⟨some 35, Op.indexAddr 25 (Operand.tmp 24) (Operand.tmp 29), _, _, _, none⟩ rfl (fun _ _ _ h => h) ?_ hHeld ?_
      rotate_left
      · (intro W _; go_simp <;> (try with_reducible rfl))
      refine ready_call 13 ⟨none, Op.store 3 (Operand.tmp 35) (Operand.tmp 34), _, _, _, none⟩ (by kernel_rfl) rfl (by kernel_rfl) (fun K hK => ?_)
      go_wp2_with fail
      refine hK.out _ _ (by rw [World.cell?_setCell_other _ _ _ _ (addr_ne' (by omega))]; exact S7) (fun hHeld => ?_)
      clear hK K
      refine wpAnyH_done (by kernel_rfl) ?_ _
      refine NoPanic.normal ?_
      generalize wrap64 (Z (o + y) + x7) = z
      generalize IntKind.i64.wrap (Z (o + y) + x7) = z9
      obtain ⟨w8, hw8⟩ : ∃ w8, w8 = w7.setCell ⟨b2, y, none⟩ (.int .i64 z) := ⟨_, rfl⟩
      have H8 : Hid (Below w.heap.size w w8 ∧ Vec w8 b Z ∧ IntS w8 b2 (b2 + 1) (some ⟨b2, 0, none⟩) m (fun i => if i = y then z else Z (o + i))) := by
        rw [hw8]
        exact ⟨H7.out.1.2.1.setCell (p := ⟨b2, y, none⟩) (by show w.heap.size ≤ b2; omega) _, H7.out.1.2.2.2.2.2.setOther (by omega), H7.out.2.2.set hy⟩
      have e5 : w8.cell? ⟨t5, 0, none⟩ = some (.slice (some ⟨b, o, none⟩) m m) := by rw [hw8]; exact (H7.out.1.2.2.2.2.1.other (by omega)).cell 0 rfl
      have e6 : w8.cell? ⟨t6, 0, none⟩ = some (.slice (some ⟨b2, 0, none⟩) m c2) := by rw [hw8]; exact (H7.out.2.1.other (by omega)).cell 0 rfl
      have l5 : t5 < w8.heap.size := by rw [hw8]; exact (H7.out.1.2.2.2.2.1.other (by omega)).2
      have l6 : t6 < w8.heap.size := by rw [hw8]; exact (H7.out.2.1.other (by omega)).2
      have es : w8.cell? ⟨s, 0, none⟩ = some (.slice none 0 0) := by rw [hw8]; exact (H7.out.1.2.2.1.other (by omega)).cell 0 rfl
      have es' : w8.cell? ⟨s + 1, 0, none⟩ = some (.slice none 0 0) := by rw [hw8]; exact (H7.out.1.2.2.2.1.other (by omega)).cell 0 rfl
      have fs : w8.frozen? ⟨s, 0, none⟩ = false := by rw [hw8]; exact (H7.out.1.2.2.1.other (by omega)).frz 0 (by simp)
      have fs' : w8.frozen? ⟨s + 1, 0, none⟩ = false := by rw [hw8]; exact (H7.out.1.2.2.2.1.other (by omega)).frz 0 (by simp)
      have ls : s + 1 < w8.heap.size := by rw [hw8]; exact (H7.out.1.2.2.2.1.other (by omega)).2
      have HF : Hid (CcDrew w (.returned (.tuple #[.agg #[.slice (some ⟨b, o, none⟩) m m], .agg #[.slice (some ⟨b2, 0, none⟩) m c2]])) ((w8.drew.setCell ⟨s, 0, none⟩ (.slice (some ⟨b, o, none⟩) m m)).setCell ⟨s + 1, 0, none⟩ (.slice (some ⟨b2, 0, none⟩) m c2))) := by
        have hdr : Below w8.heap.size w8 w8.drew := (Below.refl _ _).drew
        refine ⟨_, m, m, _, _, m, c2, _, rfl, by omega, by omega, (((H8.out.2.1.sl hom).kept hdr).set (fun b1 o1 e => ?_)).set (fun b1 o1 e => ?_), ((H8.out.2.2.sl.kept hdr).set (fun b1 o1 e => ?_)).set (fun b1 o1 e => ?_), ((below_next H8.out.1 hdr).setCell (p := ⟨s, 0, none⟩) (by show w.heap.size ≤ s; omega) _).setCell (p := ⟨s + 1, 0, none⟩) (by show w.heap.size ≤ s + 1; omega) _, fun b1 o1 e => ?_, fun b1 o1 e => ?_⟩
        all_goals cases e; omega
      rw [← hw8]
      clear hw8 H7 H8 S6 S7 rz6 fz6 hbl6 rz7 fz7 hbl7
      have n1 : s ≠ t5 := by omega
      have n2 : s ≠ t6 := by omega
      have n3 : s + 1 ≠ t5 := by omega
      have n4 : s + 1 ≠ t6 := by omega
      go_upto_region 7 with fail
      go_region_held (fun W => W.cell? ⟨t5, 0, none⟩ = some (.slice (some ⟨b, o, none⟩) m m) ∧ W.cell? ⟨t6, 0, none⟩ = some (.slice (some ⟨b2, 0, none⟩) m c2)) (go_keep) (fail)
      all_goals
        go_wp2
        exact bodyPost_ret (v := .tuple #[.agg #[.slice (some ⟨b, o, none⟩) m m], .agg #[.slice (some ⟨b2, 0, none⟩) m c2]]) (by simp [results, Try.results62, go_sem, *]) rfl HF.out
    ·
      go_wp2_with fail
      refine (pick_any _ _ _ _ _ _ _ _ (by omega) (by omega) H6.out.1.1).mono ?_
      rintro _ w7 ⟨x7, hx7, rfl, hd⟩
      have H7 : Hid (CcH w7 w (s + 1 + 1) a n cap X 26 s (s + 1) b o m t5 Z ∧ Bx w7 t6 [.slice (some ⟨b2, 0, none⟩) m c2] ∧ IntS w7 b2 (b2 + 1) (some ⟨b2, 0, none⟩) m (fun i => Z (o + i))) := ⟨H6.out.1.draw hd (by omega) (by omega) (by omega) (by omega) (by omega), H6.out.2.1.trn hd.2 (Or.inr (by omega)), Turned.ints (show Turned _ _ _ _ from hd.2) H6.out.2.2 (Or.inr (by omega))⟩
      clear hd H6 hx7
      have S7 := H7.out.2.1.cell 0 rfl
      obtain ⟨rz7, fz7, hbl7⟩ := ints_at H7.out.2.2 hy
      refine hK.out _ _ S7 (fun hHeld => ?_)
      clear hK K
      refine ready_call 8 ⟨some 31, Op.load 3 (Operand.tmp 30), _, _, _, none⟩ (by kernel_rfl) rfl (by kernel_rfl) (fun K hK => ?_)
      go_wp2_with fail
      refine hK.out _ _ (by first | exact S7 | exact S6) (fun hHeld => ?_)
      clear hK K
      refine take_v (v := ?_) 11 ⟨some 34, Op.binOp BinOp.add 3 (Operand.tmp 31) (Operand.tmp 33) 3, _, _, _, none⟩ rfl (fun _ _ _ h => h) ?_ hHeld ?_
      rotate_left
      · (intro W _; go_simp <;> (try with_reducible rfl))
      refine take_v (v := ?_) 12 ⟨some 35, Op.indexAddr 25 (Operand.tmp 24) (Operand.tmp 29), _, _, _, none⟩ rfl (fun _ _ _ h => h) ?_ hHeld ?_
      rotate_left
      · (intro W _; go_simp <;> (try with_reducible rfl))
      refine ready_call 13 ⟨none, Op.store 3 (Operand.tmp 35) (Operand.tmp 34), _, _, _, none⟩ (by kernel_rfl) rfl (by kernel_rfl) (fun K hK => ?_)
      go_wp2_with fail
      refine hK.out _ _ (by rw [World.cell?_setCell_other _ _ _ _ (addr_ne' (by omega))]; exact S7) (fun hHeld => ?_)
      clear hK K
      refine wpAnyH_done (by kernel_rfl) ?_ _
      refine NoPanic.normal ?_
      generalize wrap64 (Z (o + y) + x7) = z
      generalize IntKind.i64.wrap (Z (o + y) + x7) = z9
      obtain ⟨w8, hw8⟩ : ∃ w8, w8 = w7.setCell ⟨b2, y, none⟩ (.int .i64 z) := ⟨_, rfl⟩
      have H8 : Hid (Below w.heap.size w w8 ∧ Vec w8 b Z ∧ IntS w8 b2 (b2 + 1) (some ⟨b2, 0, none⟩) m (fun i => if i = y then z else Z (o + i))) := by
        rw [hw8]
        exact ⟨H7.out.1.2.1.setCell (p := ⟨b2, y, none⟩) (by show w.heap.size ≤ b2; omega) _, H7.out.1.2.2.2.2.2.setOther (by omega), H7.out.2.2.set hy⟩
      have e5 : w8.cell? ⟨t5, 0, none⟩ = some (.slice (some ⟨b, o, none⟩) m m) := by rw [hw8]; exact (H7.out.1.2.2.2.2.1.other (by omega)).cell 0 rfl
      have e6 : w8.cell? ⟨t6, 0, none⟩ = some (.slice (some ⟨b2, 0, none⟩) m c2) := by rw [hw8]; exact (H7.out.2.1.other (by omega)).cell 0 rfl
      have l5 : t5 < w8.heap.size := by rw [hw8]; exact (H7.out.1.2.2.2.2.1.other (by omega)).2
      have l6 : t6 < w8.heap.size := by rw [hw8]; exact (H7.out.2.1.other (by omega)).2
      have es : w8.cell? ⟨s, 0, none⟩ = some (.slice none 0 0) := by rw [hw8]; exact (H7.out.1.2.2.1.other (by omega)).cell 0 rfl
      have es' : w8.cell? ⟨s + 1, 0, none⟩ = some (.slice none 0 0) := by rw [hw8]; exact (H7.out.1.2.2.2.1.other (by omega)).cell 0 rfl
      have fs : w8.frozen? ⟨s, 0, none⟩ = false := by rw [hw8]; exact (H7.out.1.2.2.1.other (by omega)).frz 0 (by simp)
      have fs' : w8.frozen? ⟨s + 1, 0, none⟩ = false := by rw [hw8]; exact (H7.out.1.2.2.2.1.other (by omega)).frz 0 (by simp)
      have ls : s + 1 < w8.heap.size := by rw [hw8]; exact (H7.out.1.2.2.2.1.other (by omega)).2
      have HF : Hid (CcDrew w (.returned (.tuple #[.agg #[.slice (some ⟨b, o, none⟩) m m], .agg #[.slice (some ⟨b2, 0, none⟩) m c2]])) ((w8.drew.setCell ⟨s, 0, none⟩ (.slice (some ⟨b, o, none⟩) m m)).setCell ⟨s + 1, 0, none⟩ (.slice (some ⟨b2, 0, none⟩) m c2))) := by
        have hdr : Below w8.heap.size w8 w8.drew := (Below.refl _ _).drew
        refine ⟨_, m, m, _, _, m, c2, _, rfl, by omega, by omega, (((H8.out.2.1.sl hom).kept hdr).set (fun b1 o1 e => ?_)).set (fun b1 o1 e => ?_), ((H8.out.2.2.sl.kept hdr).set (fun b1 o1 e => ?_)).set (fun b1 o1 e => ?_), ((below_next H8.out.1 hdr).setCell (p := ⟨s, 0, none⟩) (by show w.heap.size ≤ s; omega) _).setCell (p := ⟨s + 1, 0, none⟩) (by show w.heap.size ≤ s + 1; omega) _, fun b1 o1 e => ?_, fun b1 o1 e => ?_⟩
        all_goals cases e; omega
      rw [← hw8]
      clear hw8 H7 H8 S6 S7 rz6 fz6 hbl6 rz7 fz7 hbl7
      have n1 : s ≠ t5 := by omega
      have n2 : s ≠ t6 := by omega
      have n3 : s + 1 ≠ t5 := by omega
      have n4 : s + 1 ≠ t6 := by omega
      go_upto_region 7 with fail
      go_region_held (fun W => W.cell? ⟨t5, 0, none⟩ = some (.slice (some ⟨b, o, none⟩) m m) ∧ W.cell? ⟨t6, 0, none⟩ = some (.slice (some ⟨b2, 0, none⟩) m c2)) (go_keep) (fail)
      all_goals
        go_wp2
        exact bodyPost_ret (v := .tuple #[.agg #[.slice (some ⟨b, o, none⟩) m m], .agg #[.slice (some ⟨b2, 0, none⟩) m c2]]) (by simp [results, Try.results62, go_sem, *]) rfl HF.out
set_option maxRecDepth 100000 in
set_option maxHeartbeats 1000000 in
theorem drawMerge_any (a : Option Addr) (n cap : Nat) (X : Nat → Int) (w : World) (hn : n ≤ 9223372036854775807) (hs : Sl w a n 1 (byF X)) (hX : ∀ i, i < n → 0 ≤ X i ∧ X i ≤ 255) :
    Calls Try.prog 24 #[.slice a n cap] w (CcDrew w) := by
  have HS : Hid (Sl w a n 1 (byF X) ∧ ∀ i, i < n → 0 ≤ X i ∧ X i ≤ 255) := ⟨hs, hX⟩
  clear hs hX
  obtain ⟨W0, hW0⟩ : ∃ z, z = (w.alloc (.cells #[.slice none 0 0] 36)).alloc (.cells #[.slice none 0 0] 36) := ⟨_, rfl⟩
  have hz0' : W0.heap.size = w.heap.size + 1 + 1 := by rw [hW0]; simp
  have hb0 : Below w.heap.size w W0 := by rw [hW0]; exact ((Below.refl _ _).alloc (Nat.le_refl _) _).alloc (by simp) _
  have hT0 : Bx W0 w.heap.size [.slice none 0 0] := by rw [hW0]; exact (Bx.new w [.slice none 0 0] _).next (Go.Joins.below_alloc1 _ _)
  have hT1 : Bx W0 (w.heap.size + 1) [.slice none 0 0] := by rw [hW0]; have := Bx.new (w.alloc (.cells #[.slice none 0 0] 36)) [.slice none 0 0] 36; simpa using this
  have H0 : Hid (Below w.heap.size w W0 ∧ Bx W0 w.heap.size [.slice none 0 0] ∧ Bx W0 (w.heap.size + 1) [.slice none 0 0]) := ⟨hb0, hT0, hT1⟩
  clear hT0 hT1 hb0
  go_enter Try.func24, Try.ntmps24
  go_wp2_with fail
  rw [← hW0]
  clear hW0
  refine (drawCompare_any _ _ _ X _ hn (HS.out.1.below H0.out.1 (Nat.le_refl _)) HS.out.2).mono ?_
  rintro _ w1 ⟨a1, n1, c1, Z1, a2, n2, c2, Z2, rfl, h1, h2, h3, h4, h5, h6, h7⟩
  have x0 := (H0.out.2.1.next h5).cell 0 rfl
  have xf := (H0.out.2.1.next h5).frz 0 (by simp)
  have xl := (H0.out.2.1.next h5).2
  have y0 := (H0.out.2.2.next h5).cell 0 rfl
  have yf := (H0.out.2.2.next h5).frz 0 (by simp)
  have yl := (H0.out.2.2.next h5).2
  have HF : Hid (CcDrew w (.returned (.tuple #[.agg #[.slice a1 n1 c1], .agg #[.slice a2 n2 c2]])) ((w1.setCell ⟨w.heap.size, 0, none⟩ (.slice a1 n1 c1)).setCell ⟨w.heap.size + 1, 0, none⟩ (.slice a2 n2 c2))) := by
    refine ⟨a1, n1, c1, Z1, a2, n2, c2, Z2, rfl, h1, h2, (h3.set (fun b1 o1 e => ?_)).set (fun b1 o1 e => ?_), (h4.set (fun b1 o1 e => ?_)).set (fun b1 o1 e => ?_), ((H0.out.1.trans (h5.mono H0.out.1.size)).setCell (p := ⟨w.heap.size, 0, none⟩) (Nat.le_refl _) _).setCell (p := ⟨w.heap.size + 1, 0, none⟩) (Nat.le_succ _) _, fun b1 o1 e => ?_, fun b1 o1 e => ?_⟩
    all_goals first
      | (have := h6 _ _ e; omega)
      | (have := h7 _ _ e; omega)
  clear h1 h2 h3 h4 h5 h6 h7 H0 HS
  go_wp2
  exact bodyPost_ret (v := .tuple #[.agg #[.slice a1 n1 c1], .agg #[.slice a2 n2 c2]]) (by simp [results, Try.results24, go_sem, *]) rfl HF.out
end Go.Proofs.Ytjophhiccbkpjaa
