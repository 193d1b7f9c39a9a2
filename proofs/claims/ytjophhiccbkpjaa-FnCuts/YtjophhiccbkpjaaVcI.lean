/- Lists of clocks that a call builds; the contracts of VectorOf and of the specification's l2Merge. -/
import Derived.Test.YtjophhiccbkpjaaClkV
import Derived.Test.YtjophhiccbkpjaaVcA
namespace Go.Proofs.Ytjophhiccbkpjaa
open Go.RowKit
set_option linter.unusedVariables false

def slL (h cp : Nat → Nat) (k : Nat) : List Value := (List.range k).map fun i => Value.slice (some ⟨h i, 0, none⟩) 6 (cp i)
theorem slL_succ (h cp : Nat → Nat) (k : Nat) : slL h cp (k + 1) = slL h cp k ++ [.slice (some ⟨h k, 0, none⟩) 6 (cp k)] := by simp [slL, List.range_succ]
theorem slL_congr {h h' cp cp' : Nat → Nat} {k : Nat} (e : ∀ i, i < k → h i = h' i ∧ cp i = cp' i) : slL h cp k = slL h' cp' k := by
  simp only [slL]
  apply List.map_congr_left
  intro i hi
  rw [(e i (List.mem_range.1 hi)).1, (e i (List.mem_range.1 hi)).2]
/-- k clocks in a row of the call's own, from base on. -/
def ClkB (w : World) (base : Nat) (v : Value) (k : Nat) (F : Nat → Nat → Int) : Prop :=
  ∃ h cp : Nat → Nat, w.ownsRow base 36 1 v k (slL h cp k) ∧ (∀ i, i < k → base ≤ h i ∧ Vec w (h i) (F i)) ∧ ∀ i j, i < j → j < k → h i < h j
theorem row_vec {w : World} {base k : Nat} {v : Value} {h cp : Nat → Nat} {hh : Nat} {x : Nat → Int} (ho : w.ownsRow base 36 1 v k (slL h cp k)) (hk : 0 < k) (hv : Vec w hh x) : v.ownBlock ≠ some hh := by
  obtain ⟨g, cap, rfl⟩ := Go.Joins.ownsRow_form ho hk
  intro e
  have e : g = hh := by simpa [Value.ownBlock] using e
  subst e
  have h1 := World.ownsRow.cellAt ho 0 (by omega)
  have h2 := (hv.1 0 (by omega)).1
  rw [h2] at h1
  simp [slL, hk] at h1
theorem ClkB.nil (w : World) (base : Nat) (F : Nat → Nat → Int) : ClkB w base (.slice none 0 0) 0 F := ⟨fun _ => 0, fun _ => 0, World.ownsRow_nil _ _ _ _, fun i hi => absurd hi (by omega), fun i j _ hj => absurd hj (by omega)⟩
theorem ClkB.next {w w' : World} {base : Nat} {v : Value} {k : Nat} {F : Nat → Nat → Int} (h : ClkB w base v k F) (hb : Below w.heap.size w w') : ClkB w' base v k F := by
  obtain ⟨hh, cp, h1, h2, h3⟩ := h
  exact ⟨hh, cp, own_keep h1 hb, fun i hi => ⟨(h2 i hi).1, (h2 i hi).2.below hb (h2 i hi).2.2⟩, h3⟩
theorem ClkB.form {w : World} {base : Nat} {v : Value} {k : Nat} {F : Nat → Nat → Int} (h : ClkB w base v k F) : ∃ a cap, v = .slice a k cap ∧ ClkR w base w.heap.size a k F := by
  obtain ⟨hh, cp, h1, h2, h3⟩ := h
  rcases Nat.eq_zero_or_pos k with hz | hp
  · subst hz
    obtain ⟨_, h | ⟨g, cap, cur, rfl, _⟩⟩ := h1
    · exact ⟨none, 0, h.1, Or.inl rfl, Nat.le_refl _⟩
    · exact ⟨_, cap, rfl, Or.inl rfl, Nat.le_refl _⟩
  obtain ⟨g, cap, rfl⟩ := Go.Joins.ownsRow_form h1 hp
  refine ⟨_, cap, rfl, Or.inr ⟨g, hh, cp, rfl, (h1.lt g rfl).1, (h1.lt g rfl).2, (h1.lt g rfl).2, fun i hi => ⟨?_, (h2 i hi).1, (h2 i hi).2.2, fun e => ?_, (h2 i hi).2⟩, h3⟩, Nat.le_refl _⟩
  · rw [World.ownsRow.cellAt h1 i (by simpa using hi)]; simp [slL, hi]
  · exact row_vec h1 hp (h2 i hi).2 (by rw [e]; rfl)
theorem clk_push {w w4 : World} {base k hk c : Nat} {v v4 : Value} {F : Nat → Nat → Int} {x : Nat → Int} {o : Obj} {hh cp : Nat → Nat} (h1 : w.ownsRow base 36 1 v k (slL hh cp k)) (h2 : ∀ i, i < k → base ≤ hh i ∧ Vec w (hh i) (F i)) (h3 : ∀ i j, i < j → j < k → hh i < hh j) (hlt : ∀ i, i < k → hh i < hk) (hv : Vec w hk x) (hb : base ≤ hk) (hne : v.ownBlock ≠ some hk) (hx : ∀ p, p < 6 → x p = F k p)
    (hown : w4.ownsRow base 36 1 v4 (k + 1) (slL hh cp k ++ [.slice (some ⟨hk, 0, none⟩) 6 c])) (hg : (w.alloc o).grownBy w4 v.ownBlock) : ClkB w4 base v4 (k + 1) F := by
  have ha := Go.Joins.below_alloc1 w o
  refine ⟨fun i => if i < k then hh i else hk, fun i => if i < k then cp i else c, ?_, fun i hi => ?_, fun i j hij hj => ?_⟩
  · rw [slL_succ, slL_congr (h' := hh) (cp' := cp) (fun i hi => by simp [hi])]
    simpa using hown
  · by_cases e : i < k
    · simp only [if_pos e]
      refine ⟨(h2 i e).1, ((h2 i e).2.below ha (h2 i e).2.2).grown hg (fun q => ?_)⟩
      exact row_vec h1 (by omega) (h2 i e).2 q.symm
    · have : i = k := by omega
      subst this
      simp only [if_neg e]
      exact ⟨hb, ((hv.below ha hv.2).grown hg (fun q => hne q.symm)).congr hx⟩
  · by_cases e : j < k
    · simp only [if_pos e, if_pos (show i < k by omega)]; exact h3 i j hij e
    · simp only [if_neg e, if_pos (show i < k by omega)]; exact hlt i (by omega)
theorem SRow.grown {w w' : World} {B C : Nat} {a : Option Addr} {n c : Nat} {F : Nat → Nat → Value} {row : Option Nat} (h : SRow w B C a n c F) (hg : w.grownBy w' row) (hne : ∀ g, a = some ⟨g, 0, none⟩ → row ≠ some g) : SRow w' B C a n c F := by
  refine ⟨?_, Nat.le_trans h.2 hg.size⟩
  rcases h.1 with h | ⟨g, e, hB, hC, hgl, hE, hR⟩
  · exact Or.inl h
  · have hk := hg.block g hgl (fun q => hne g e q.symm)
    exact Or.inr ⟨g, e, hB, hC, Nat.lt_of_lt_of_le hgl hg.size, hE.same hk, hR.same hk⟩
theorem srow_vec {w : World} {B C g : Nat} {n : Nat} {K P M : Nat → Int} (h : SRow w B C (some ⟨g, 0, none⟩) n 6 (vecF K P M)) (hn : 0 < n) : Vec w g (fun p => vc K P M 1 p) := by
  rcases h.1 with h | ⟨g', e, _, _, hg, hE, hR⟩
  · omega
  · have : g = g' := by simpa using e
    subst this
    exact ⟨fun i hi => ⟨by have := hE 0 hn i hi; simpa [vecF] using this, (hR i (by omega)).2⟩, hg⟩
def VoPost (K P M : Nat → Int) (n : Nat) (w : World) (r : Ending) (w' : World) : Prop :=
  (∃ a cap, r = .returned (.tuple #[.slice a (lmN K P M n) cap, .bool (goodE K P M n)]) ∧ ClkR w' w.heap.size w'.heap.size a (lmN K P M n) (fun i p => vc K P M (i + 1) p)) ∧ Below w.heap.size w w'
theorem vo_no {K P M : Nat → Int} {n : Nat} {w w' : World} (h : goodE K P M n = false) (hb : Below w.heap.size w w') : VoPost K P M n w (.returned (.tuple #[.slice none 0 0, .bool false])) w' :=
  ⟨⟨none, 0, by simp [lmN, h], Or.inl (by simp [lmN, h]), Nat.le_refl _⟩, hb⟩
theorem vo_yes {K P M : Nat → Int} {n : Nat} {w w' : World} {a : Option Addr} {cap : Nat} (h : goodE K P M n = true) (hx : ClkR w' w.heap.size w'.heap.size a n (fun i p => vc K P M (i + 1) p)) (hb : Below w.heap.size w w') : VoPost K P M n w (.returned (.tuple #[.slice a n cap, .bool true])) w' :=
  ⟨⟨a, cap, by simp [lmN, h], by simpa [lmN, h] using hx⟩, hb⟩
theorem ClkR.wide {w : World} {B B' C : Nat} {a : Option Addr} {n : Nat} {F : Nat → Nat → Int} (h : ClkR w B C a n F) (hB : B' ≤ B) : ClkR w B' C a n F := by
  refine ⟨?_, h.2⟩
  rcases h.1 with h | ⟨g, hh, cp, e1, h1, h2, h3, h4, h5⟩
  · exact Or.inl h
  · exact Or.inr ⟨g, hh, cp, e1, by omega, h2, h3, fun i hi => ⟨(h4 i hi).1, by have := (h4 i hi).2.1; omega, (h4 i hi).2.2⟩, h5⟩
theorem info_clock : (Try.prog.info? 36).map (fun i => (i.zero, i.size, i.bytes)) = some (some (.agg #[.slice none 0 0]), 1, 24) := by kernel_rfl

set_option maxRecDepth 100000 in
set_option maxHeartbeats 4000000 in
theorem vectorOf_any (a : Option Addr) (n cap : Nat) (K P M : Nat → Int) (w : World) (hn : n ≤ 1048576) (hM : ∀ i, i < n → -9223372036854775808 ≤ M i ∧ M i ≤ 9223372036854775807) (hs : Sl w a n 3 (evF K P M)) :
    Calls Try.prog 21 #[.slice a n cap] w fun r w' => VoPost K P M n w r w' := by
  have HM : Hid (∀ i, i < n → -9223372036854775808 ≤ M i ∧ M i ≤ 9223372036854775807) := hM
  have HS : Hid (Sl w a n 3 (evF K P M)) := hs
  clear hs hM
  obtain ⟨i0, hi, hz0, hzs, hz2⟩ := info_parts info_clock
  go_enter Try.func21, Try.ntmps21
  go_wp2_with fail
  refine (goodEvents_any _ _ _ K P M _ hn HM.out HS.out).mono ?_
  rintro r w1 ⟨rfl, hb1⟩
  have HB1 : Hid (Below w.heap.size w w1) := hb1
  have hw1 : w.heap.size ≤ w1.heap.size := hb1.size
  clear hb1
  cases hg : goodE K P M n
  · have HN : Hid (goodE K P M n = false) := hg
    go_wp2
    exact bodyPost_ret (v := .tuple #[.slice none 0 0, .bool false]) (by simp [results, Try.results21, go_sem]) rfl (vo_no HN.out HB1.out)
  have HG : Hid (goodE K P M n = true) := hg
  obtain ⟨h60, hev⟩ := good_ev hg
  have HE : Hid (∀ i, i < n → evOk K P M i = true) := hev
  clear hg hev
  go_wp2_with (at_make; refine wpList_make_own _ rfl (.const (.int .i64 0)) (.tmp 11) 32 rfl w1.heap.size 36 i0 (.agg #[.slice none 0 0]) 1 Try.underlying32 hi hz0 hzs .i64 .i64 _ n rfl rfl rfl (by rw [hz2]; omega) (by unfold maxLen; omega) (Nat.le_refl _) ?_; intro w2 hown hgrow)
  have hb2 : Below w.heap.size w w2 := HB1.out.grown hgrow hw1 (fun k hk => by cases hk)
  have hC0 : ClkB w2 w1.heap.size (.slice (some ⟨w1.heap.size, 0, none⟩) 0 n) 0 (fun i p => vc K P M (i + 1) p) := ⟨fun _ => 0, fun _ => 0, by simpa [slL] using hown, fun i hi => absurd hi (by omega), fun i j _ hj => absurd hj (by omega)⟩
  have H2 : Hid (ClkB w2 w1.heap.size (.slice (some ⟨w1.heap.size, 0, none⟩) 0 n) 0 (fun i p => vc K P M (i + 1) p) ∧ Below w.heap.size w w2) := ⟨hC0, hb2⟩
  have hw12 : w1.heap.size < w2.heap.size := (hown.lt w1.heap.size rfl).2
  clear hown hgrow hb2 hC0 HB1
  go_wp2_with fail
  refine (vectors_any _ _ _ K P M _ h60 HM.out HE.out (HS.out.kept H2.out.2)).mono ?_
  rintro r w3 ⟨⟨a3, cap3, rfl, hR⟩, hb3⟩
  have H3 : Hid (ClkB w3 w1.heap.size (.slice (some ⟨w1.heap.size, 0, none⟩) 0 n) 0 (fun i p => vc K P M (i + 1) p) ∧ SRow w3 w2.heap.size w3.heap.size a3 n 6 (vecF K P M) ∧ Below w.heap.size w w3) := ⟨H2.out.1.next hb3, hR, below_next H2.out.2 hb3⟩
  obtain ⟨C, hC⟩ : ∃ C, C = w3.heap.size := ⟨_, rfl⟩
  rw [← hC] at H3
  have hw23 : w2.heap.size ≤ w3.heap.size := hb3.size
  clear hR hb3 H2 hC
  have hw2 : w1.heap.size < w2.heap.size := hw12
  go_wp2
  go_loopw [16, 4] (fun i v wr => ∃ k : Nat, k ≤ n ∧ i = .int .i64 k ∧ ClkB wr w1.heap.size v k (fun i p => vc K P M (i + 1) p) ∧ SRow wr w2.heap.size C a3 n 6 (vecF K P M) ∧ (∀ g, a3 = some ⟨g, 0, none⟩ → w2.heap.size ≤ g → v.ownBlock ≠ some g) ∧ (∀ j, v.ownBlock = some j → j < wr.heap.size) ∧ Below w.heap.size w wr) (fun i _ _ => n - (intOf i).toNat)
  case atStart => exact ⟨0, Nat.zero_le _, rfl, H3.out.1, H3.out.2.1, fun g _ hg => by simp [Value.ownBlock]; omega, fun j hj => by simp [Value.ownBlock] at hj; omega, H3.out.2.2⟩
  case round =>
    obtain ⟨k, hk, rfl, hC, hR, hN, hO, hB⟩ := hrel
    by_cases hlt : k < n
    · have hlt' : (k : Int) < (n : Int) := by omega
      obtain ⟨g, rfl, hgl, v0, v1, v2, v3, v4, v5⟩ := vec_row hR hlt
      have hgB : w2.heap.size ≤ g := by
        rcases hR.1 with h | ⟨g', e, h1, _⟩
        · omega
        · have : g = g' := by simpa using e
          omega
      obtain ⟨hh, cp, h1, h2, h3⟩ := hC
      obtain ⟨u, hu⟩ : ∃ u, u = vc K P M (k + 1) := ⟨_, rfl⟩
      rw [← hu] at v0 v1 v2 v3 v4 v5
      have HL : Hid (wr.ownsRow w1.heap.size 36 1 u4 k (slL hh cp k) ∧ (∀ i, i < k → w1.heap.size ≤ hh i ∧ Vec wr (hh i) (fun p => vc K P M (i + 1) p)) ∧ (∀ i j, i < j → j < k → hh i < hh j) ∧ SRow wr w2.heap.size C (some ⟨g, 0, none⟩) n 6 (vecF K P M) ∧ u4.ownBlock ≠ some g ∧ (∀ j, u4.ownBlock = some j → j < wr.heap.size) ∧ Below w.heap.size w wr ∧ u = vc K P M (k + 1)) := ⟨h1, h2, h3, hR, hN g rfl hgB, hO, hB, hu⟩
      have hz : w.heap.size ≤ wr.heap.size := hB.size
      have hz1 : w1.heap.size ≤ wr.heap.size := by omega
      clear h1 h2 h3 hR hN hO hB hu
      obtain ⟨wA, hwA⟩ : ∃ z, z = wr.alloc (.cells #[.int .i64 (u 0), .int .i64 (u 1), .int .i64 (u 2), .int .i64 (u 3), .int .i64 (u 4), .int .i64 (u 5)] 73) := ⟨_, rfl⟩
      have hbA : Below wr.heap.size wr wA := by rw [hwA]; exact Go.Joins.below_alloc1 _ _
      go_wp2_with fail
      rw [← hwA]
      have HbA : Hid (Below wr.heap.size wr wA) := hbA
      clear hbA hwA v0 v1 v2 v3 v4 v5
      refine (listFrom_any u _).mono ?_
      rintro r w5 ⟨⟨a5, cap5, rfl, hi5⟩, hb5⟩
      rcases hi5 with h | ⟨hk5, rfl, k1, k2, k3, k4⟩
      · omega
      have hbW : Below wr.heap.size wr w5 := HbA.out.trans (hb5.mono HbA.out.size)
      have HW : Hid (w5.ownsRow w1.heap.size 36 1 u4 k (slL hh cp k) ∧ (∀ i, i < k → w1.heap.size ≤ hh i ∧ Vec w5 (hh i) (fun p => vc K P M (i + 1) p)) ∧ SRow w5 w2.heap.size C (some ⟨g, 0, none⟩) n 6 (vecF K P M) ∧ Below w.heap.size w w5 ∧ Vec w5 hk5 u ∧ (∀ i, i < k → hh i < hk5) ∧ u4.ownBlock ≠ some hk5) :=
        ⟨own_keep HL.out.1 hbW, fun i hi => ⟨(HL.out.2.1 i hi).1, (HL.out.2.1 i hi).2.below hbW (HL.out.2.1 i hi).2.2⟩, HL.out.2.2.2.1.next hbW, below_next HL.out.2.2.2.2.2.2.1 hbW, ⟨k4, k3⟩, fun i hi => by have := (HL.out.2.1 i hi).2.2; have := HbA.out.size; omega, fun e => by have := HL.out.2.2.2.2.2.1 hk5 e; have := HbA.out.size; omega⟩
      have hz5 : wr.heap.size ≤ w5.heap.size := hbW.size
      have hk5b : w1.heap.size ≤ hk5 := by have := HbA.out.size; omega
      clear hb5 hbW k1 k2 k3 k4 HbA
      go_wp2_with (first
        | (at_builtin; refine wpList_append_own _ rfl (.tmp 20) (.tmp 24) 32 rfl w1.heap.size 36 i0 (.agg #[.slice none 0 0]) 1 24 Try.underlying32 hi hz0 hzs hz2 rfl (by decide) u4 k (slL hh cp k) rfl (World.ownsRow.alloc HW.out.1 _) ⟨_, 0, none⟩ 1 1 [.slice (some ⟨hk5, 0, none⟩) 6 cap5] rfl rfl (one_at (by first | rfl | simp) _ _) (by intro z hz; simp at hz; subst hz; rfl) (by unfold maxLen; omega) (by omega) (by simp <;> omega) ?_; intro v4 w4 hown hgrow hnil)
        | go_in)
      have HF : Hid (ClkB w4 w1.heap.size v4 (k + 1) (fun i p => vc K P M (i + 1) p) ∧ SRow w4 w2.heap.size C (some ⟨g, 0, none⟩) n 6 (vecF K P M) ∧ (∀ g', some (⟨g, 0, none⟩ : Addr) = some ⟨g', 0, none⟩ → w2.heap.size ≤ g' → v4.ownBlock ≠ some g') ∧ (∀ j, v4.ownBlock = some j → j < w4.heap.size) ∧ Below w.heap.size w w4) := by
        have hng : ∀ g', some (⟨g, 0, none⟩ : Addr) = some ⟨g', 0, none⟩ → u4.ownBlock ≠ some g' := by
          intro g' e
          have : g = g' := by simpa using e
          subst this
          exact HL.out.2.2.2.2.1
        have hS4 : SRow w4 w2.heap.size C (some ⟨g, 0, none⟩) n 6 (vecF K P M) := (HW.out.2.2.1.next (Go.Joins.below_alloc1 _ _)).grown hgrow hng
        have hown' : w4.ownsRow w1.heap.size 36 1 v4 (k + 1) (slL (fun i => if i < k then hh i else hk5) (fun i => if i < k then cp i else cap5) (k + 1)) := by
          rw [slL_succ, slL_congr (h' := hh) (cp' := cp) (fun i hi => by simp [hi])]
          simpa using hown
        refine ⟨clk_push HW.out.1 HW.out.2.1 HL.out.2.2.1 HW.out.2.2.2.2.2.1 HW.out.2.2.2.2.1 hk5b HW.out.2.2.2.2.2.2 (fun p _ => by rw [HL.out.2.2.2.2.2.2.2]) hown hgrow, hS4, fun g' e _ => ?_, fun j hj => (hown.lt j hj).2, (HW.out.2.2.2.1.alloc HW.out.2.2.2.1.size _).grown hgrow (by have := HW.out.2.2.2.1.size; simp at this ⊢; omega) (fun j hj => by have := (HW.out.1.lt j hj).1; omega)⟩
        have : g = g' := by simpa using e
        subst this
        exact row_vec hown' (by omega) (srow_vec hS4 (by omega))
      clear hown hgrow hnil
      go_wp2
      go_roundw
      case rel => exact ⟨k + 1, by omega, by go_num, HF.out⟩
      case measure => simp [intOf]; omega
    · have hkn : k = n := by omega
      subst hkn
      obtain ⟨a4, cap4, rfl, hx⟩ := hC.form
      have HF : Hid (ClkR wr w.heap.size wr.heap.size a4 k (fun i p => vc K P M (i + 1) p) ∧ Below w.heap.size w wr) := ⟨hx.wide hw1, hB⟩
      clear hC hR hN hO hB hx
      go_wp2
      exact bodyPost_ret (v := .tuple #[.slice a4 k cap4, .bool true]) (by simp [results, Try.results21, go_sem]) rfl (vo_yes HG.out HF.out.1 HF.out.2)
end Go.Proofs.Ytjophhiccbkpjaa
