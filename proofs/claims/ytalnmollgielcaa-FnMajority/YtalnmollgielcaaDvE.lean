/- The draw of votes with a group and a threshold: DrawWeightOf, DrawIsRead, DrawIsWrite. -/
import Derived.Test.YtalnmollgielcaaDvD
import Derived.Test.YtalnmollgielcaaMtI
namespace Go.Proofs.Ytalnmollgielcaa
open Go.RowKit
set_option linter.unusedVariables false

/-- A list of votes and a group, as they lie, in blocks below hi. -/
def VgAt (w' : World) (lo hi : Nat) (LV : List Int) (aV : Option Addr) (LG : List Int) (aG : Option Addr) (cG : Nat) : Prop := LV.length ≤ 7 ∧ LG.length ≤ 14 ∧ IntS w' lo hi aV LV.length (atZ LV) ∧ IntS w' lo hi aG LG.length (atZ LG) ∧ Formed aG LG.length cG ∧ hi ≤ w'.heap.size
theorem VgAt.next {w w' : World} {lo hi : Nat} {LV : List Int} {aV : Option Addr} {LG : List Int} {aG : Option Addr} {cG : Nat} (h : VgAt w lo hi LV aV LG aG cG) (hb : Below w.heap.size w w') : VgAt w' lo hi LV aV LG aG cG := ⟨h.1, h.2.1, h.2.2.1.below hb h.2.2.2.2.2, h.2.2.2.1.below hb h.2.2.2.2.2, h.2.2.2.2.1, Nat.le_trans h.2.2.2.2.2 hb.size⟩
def WvDrew (w : World) (r : Ending) (w' : World) : Prop := ∃ LV aV cV LG aG cG, r = .returned (.tuple #[.slice aV (List.length LV) cV, .agg #[.slice aG (List.length LG) cG]]) ∧ VgAt w' w.heap.size w'.heap.size LV aV LG aG cG ∧ Below w.heap.size w w'
def RvDrew (w : World) (r : Ending) (w' : World) : Prop := ∃ LV aV cV t LG aG cG hi, (1 ≤ t ∧ t ≤ 8) ∧ r = .returned (.tuple #[.slice aV (List.length LV) cV, .int .i64 t, .agg #[.slice aG (List.length LG) cG]]) ∧ VgAt w' w.heap.size hi LV aV LG aG cG ∧ Below w.heap.size w w'
theorem boxs_trn {w w' : World} {B C g : Nat} {v : Value} (h : BoxS w g v) (ht : Trn B C w w') (ha : g < B ∨ C ≤ g) : BoxS w' g v := ⟨(World.cell?_of_block (a := ⟨g, 0, none⟩) (ht.2.2.2.2 g h.2 ha)).trans h.1, Nat.lt_of_lt_of_le h.2 ht.2.2.2.1⟩
theorem sl_trn {w w' : World} {B C lo hi : Nat} {a : Option Addr} {n : Nat} {X : Nat → Int} (h : IntS w lo hi a n X) (ht : Trn B C w w') (ha : hi ≤ B ∨ C ≤ lo) : IntS w' lo hi a n X := by
  rcases h with h | ⟨g, e, hB, hc, hg, hx⟩
  · exact Or.inl h
  · have hk := ht.2.2.2.2 g hg (by omega)
    exact Or.inr ⟨g, e, hB, hc, Nat.lt_of_lt_of_le hg ht.2.2.2.1, fun i hi => ⟨(World.cell?_of_block (a := ⟨g, i, none⟩) hk).trans (hx i hi).1, (World.frozen?_of_block (a := ⟨g, i, none⟩) hk).trans (hx i hi).2⟩⟩

theorem vg_trn {w w' : World} {B C lo hi : Nat} {LV : List Int} {aV : Option Addr} {LG : List Int} {aG : Option Addr} {cG : Nat} (h : VgAt w lo hi LV aV LG aG cG) (ht : Trn B C w w') (ha : hi ≤ B) : VgAt w' lo hi LV aV LG aG cG :=
  ⟨h.1, h.2.1, sl_trn h.2.2.1 ht (Or.inl ha), sl_trn h.2.2.2.1 ht (Or.inl ha), h.2.2.2.2.1, Nat.le_trans h.2.2.2.2.2 ht.2.2.2.1⟩
theorem vg_set {w : World} {g lo hi : Nat} {v : Value} {LV : List Int} {aV : Option Addr} {LG : List Int} {aG : Option Addr} {cG : Nat} (h : VgAt w lo hi LV aV LG aG cG) (hg : g < lo ∨ hi ≤ g) : VgAt (w.setCell ⟨g, 0, none⟩ v) lo hi LV aV LG aG cG := by
  have t : Turned g (g + 1) w (w.setCell ⟨g, 0, none⟩ v) := (Turned.refl _ _ _).set (p := ⟨g, 0, none⟩) (Nat.le_refl _) (by show g < _; omega) _
  exact ⟨h.1, h.2.1, t.ints h.2.2.1 (by omega), t.ints h.2.2.2.1 (by omega), h.2.2.2.2.1, by simpa using h.2.2.2.2.2⟩
theorem vg_wide {w : World} {lo lo' hi : Nat} {LV : List Int} {aV : Option Addr} {LG : List Int} {aG : Option Addr} {cG : Nat} (h : VgAt w lo hi LV aV LG aG cG) (hl : lo' ≤ lo) : VgAt w lo' hi LV aV LG aG cG := ⟨h.1, h.2.1, h.2.2.1.wide hl (Nat.le_refl _), h.2.2.2.1.wide hl (Nat.le_refl _), h.2.2.2.2⟩
set_option maxRecDepth 100000 in
set_option maxHeartbeats 2000000 in
theorem drawWeight_any (a : Option Addr) (n cap : Nat) (X : Nat → Int) (w : World) (hn : n ≤ 9223372036854775807) (hs : Sl w a n 1 (byF X)) (hX : ∀ i, i < n → 0 ≤ X i ∧ X i ≤ 255) :
    Calls Try.prog 52 #[.slice a n cap] w (WvDrew w) := by
  obtain ⟨w0, hw0⟩ : ∃ x, x = (w.alloc (.cells #[.slice none 0 0] 25)).alloc (.cells #[.slice a n cap, .int .i64 0, .int .u64 0] 72) := ⟨_, rfl⟩
  have H0 : Hid (Bx w0 w.heap.size [.slice none 0 0] ∧ Cur w0 (w.heap.size + 1) a n cap X 0 ∧ Below w.heap.size w w0) := by
    rw [hw0]
    refine ⟨(Bx.new w [.slice none 0 0] _).next (Go.Joins.below_alloc1 _ _), ?_, ((Below.refl _ _).alloc (Nat.le_refl _) _).alloc (by simp) _⟩
    have := Cur.new (w := w.alloc (.cells #[.slice none 0 0] 25)) (cap := cap) 72 (hs.kept (Go.Joins.below_alloc1 _ _)) hn hX
    simpa using this
  clear hs hX
  go_enter Try.func52, Try.ntmps52
  go_wp2_with fail
  rw [← hw0]
  clear hw0
  have hgz : w.heap.size + 1 < w0.heap.size := H0.out.2.1.2.2.2.2.2.1
  refine (votes_any _ _ _ _ _ _ _ (by omega) H0.out.2.1).mono ?_
  rintro _ w1 ⟨LV, aV, cV, hLV, rfl, hiV, hd⟩
  have H1 : Hid (Bx w1 w.heap.size [.slice none 0 0] ∧ Drew (w.heap.size + 1) a n cap X 40 w0 w1 ∧ IntS w1 w0.heap.size w1.heap.size aV LV.length (atZ LV)) := ⟨H0.out.1.trn hd.2 (Or.inl (by omega)), hd, hiV⟩
  have hz1 : w0.heap.size ≤ w1.heap.size := hd.2.2.2.2.1
  clear hd hiV
  go_wp2_with fail
  refine (group_any _ _ _ _ _ _ _ _ (by omega) (by omega) H1.out.2.1.1).mono ?_
  rintro _ w2 ⟨LG, aG, cG, hLG, rfl, hiG, hf, hd⟩
  have H2 : Hid (Bx w2 w.heap.size [.slice none 0 0] ∧ Below w.heap.size w w2 ∧ IntS w2 w0.heap.size w1.heap.size aV LV.length (atZ LV) ∧ IntS w2 w1.heap.size w2.heap.size aG LG.length (atZ LG)) := ⟨H1.out.1.trn hd.2 (Or.inl (by omega)), below_trn H0.out.2.2 (H1.out.2.1.2.trans hd.2) (by omega), sl_trn H1.out.2.2 hd.2 (by omega), hiG⟩
  have hz12 : w1.heap.size ≤ w2.heap.size := hd.2.2.2.2.1
  have HFm : Hid (Formed aG LG.length cG ∧ LG.length ≤ 14 ∧ LV.length ≤ 7) := ⟨hf, hLG, hLV⟩
  clear hd hiG hf H1 H0
  have HP : Hid (WvDrew w (.returned (.tuple #[.slice aV LV.length cV, .agg #[.slice aG LG.length cG]])) (w2.setCell ⟨w.heap.size, 0, none⟩ (.slice aG LG.length cG))) := by
    have t : Turned w.heap.size (w.heap.size + 1) w2 (w2.setCell ⟨w.heap.size, 0, none⟩ (.slice aG LG.length cG)) := (Turned.refl _ _ _).set (p := ⟨w.heap.size, 0, none⟩) (Nat.le_refl _) (by show w.heap.size < _; omega) _
    exact ⟨LV, aV, cV, LG, aG, cG, rfl, ⟨HFm.out.2.2, HFm.out.2.1, (t.ints H2.out.2.2.1 (Or.inr (by omega))).wide (by omega) (by simp; omega), (t.ints H2.out.2.2.2 (Or.inr (by omega))).wide (by omega) (by simp), HFm.out.1, Nat.le_refl _⟩, H2.out.2.1.setCell (p := ⟨w.heap.size, 0, none⟩) (Nat.le_refl _) _⟩
  have r0 := H2.out.1.cell 0 rfl
  have rf0 := H2.out.1.frz 0 (by simp)
  have rz0 := H2.out.1.2
  clear H2 HFm
  generalize LV.length = lv at *
  generalize LG.length = lg at *
  go_wp2
  exact bodyPost_ret (v := .tuple #[.slice aV lv cV, .agg #[.slice aG lg cG]]) (by simp [results, Try.results52, go_sem, *]) rfl HP.out

set_option maxRecDepth 100000 in
set_option maxHeartbeats 2000000 in
theorem drawRead_any (a : Option Addr) (n cap : Nat) (X : Nat → Int) (w : World) (hn : n ≤ 9223372036854775807) (hs : Sl w a n 1 (byF X)) (hX : ∀ i, i < n → 0 ≤ X i ∧ X i ≤ 255) :
    Calls Try.prog 15 #[.slice a n cap] w (RvDrew w) := by
  have HS : Hid (Sl w a n 1 (byF X) ∧ ∀ i, i < n → 0 ≤ X i ∧ X i ≤ 255) := ⟨hs, hX⟩
  clear hs hX
  obtain ⟨w0, hw0⟩ : ∃ x, x = w.alloc (.cells #[.slice none 0 0] 25) := ⟨_, rfl⟩
  have H0 : Hid (Bx w0 w.heap.size [.slice none 0 0] ∧ Below w.heap.size w w0) := by rw [hw0]; exact ⟨Bx.new w [.slice none 0 0] _, Go.Joins.below_alloc1 _ _⟩
  go_enter Try.func15, Try.ntmps15
  go_wp2_with fail
  rw [← hw0]
  clear hw0
  refine (drawWeight_any _ _ _ X _ hn (HS.out.1.kept H0.out.2) HS.out.2).mono ?_
  rintro _ w1 ⟨LV, aV, cV, LG, aG, cG, rfl, hV, hb⟩
  have H1 : Hid (Bx w1 w.heap.size [.slice none 0 0] ∧ VgAt w1 w0.heap.size w1.heap.size LV aV LG aG cG ∧ Below w.heap.size w w1) := ⟨H0.out.1.next hb, hV, below_next H0.out.2 hb⟩
  have hw00 : w.heap.size < w0.heap.size := H0.out.1.2
  clear hb hV H0
  obtain ⟨lv, hlv⟩ : ∃ l, l = LV.length := ⟨_, rfl⟩
  obtain ⟨lg, hlg⟩ : ∃ l, l = LG.length := ⟨_, rfl⟩
  rw [← hlv, ← hlg]
  have HLN : Hid (lv = LV.length ∧ lg = LG.length) := ⟨hlv, hlg⟩
  clear hlv hlg
  obtain ⟨g6, hg6⟩ : ∃ g, g = w1.heap.size := ⟨_, rfl⟩
  obtain ⟨w2, hw2⟩ : ∃ x, x = ((w1.alloc (.cells #[.slice aG lg cG] 25)).alloc (.cells #[.slice a n cap, .int .i64 0, .int .u64 0] 72)).drew := ⟨_, rfl⟩
  have H2 : Hid (Bx w2 w.heap.size [.slice none 0 0] ∧ BoxS w2 g6 (.slice aG lg cG) ∧ Cur w2 (g6 + 1) a n cap X 0 ∧ VgAt w2 w0.heap.size g6 LV aV LG aG cG ∧ Below w.heap.size w w2) := by
    rw [hw2, hg6]
    have hb1 : Below w1.heap.size w1 (w1.alloc (.cells #[.slice aG lg cG] 25)) := Go.Joins.below_alloc1 _ _
    have hb2 := below_next hb1 (Go.Joins.below_alloc1 (w1.alloc (.cells #[.slice aG lg cG] 25)) (.cells #[.slice a n cap, .int .i64 0, .int .u64 0] 72))
    have hb3 := below_next hb2 (below_drew _)
    refine ⟨H1.out.1.next hb3, ((BoxS.new _ _ _).next (Go.Joins.below_alloc1 _ _)).next (below_drew _), ?_, H1.out.2.1.next hb3, below_next H1.out.2.2 hb3⟩
    have := (Cur.new (w := w1.alloc (.cells #[.slice aG lg cG] 25)) (cap := cap) 72 (HS.out.1.kept (below_next H1.out.2.2 hb1)) hn HS.out.2).next (below_drew _)
    simpa using this
  have HW2 : Hid (w2 = ((w1.alloc (.cells #[.slice aG lg cG] 25)).alloc (.cells #[.slice a n cap, .int .i64 0, .int .u64 0] 72)).drew) := hw2
  have hwg : w.heap.size < g6 := by rw [hg6]; exact H1.out.1.2
  have HG6 : Hid (g6 = w1.heap.size) := hg6
  clear H1 hw2 hg6
  go_upto_region 3 with fail
  rw [← HG6.out]
  clear HG6
  refine wp_region_noPanic ?_
  refine wp_region_held_drew (S := fun W => BoxS W g6 (.slice aG lg cG)) (by kernel_rfl) (HW2.out ▸ H2.out.2.1) (fun hHeld => ?_)
  refine take_v (v := ?_) 0 ⟨some 16, Op.move (Operand.tmp 5), _, _, _, none⟩ rfl (fun _ _ _ h => h) ?_ hHeld ?_
  rotate_left
  · (intro W _; go_simp <;> (try with_reducible rfl))
  refine take_v (v := ?_) 1 ⟨some 17, Op.move (Operand.tmp 7), _, _, _, none⟩ rfl (fun _ _ _ h => h) ?_ hHeld ?_
  rotate_left
  · (intro W _; go_simp <;> (try with_reducible rfl))
  refine take_v (v := ?_) 4 ⟨some 20, Op.load 25 (Operand.tmp 6), _, _, _, none⟩ rfl (fun _ _ _ h => h) ?_ hHeld ?_
  rotate_left
  · (intro W hSW; (have s0 := hSW.1; have s0z := hSW.2); go_simp <;> (try with_reducible rfl))
  refine ready_call 2 ⟨some 18, Op.call { callee := Callee.value (Operand.func 53), args := #[Operand.tmp 17, Operand.const (Value.int IntKind.i64 8)], argTypes := #[69, 3] }, _, _, _, none⟩ (by kernel_rfl) rfl (by kernel_rfl) (fun KC hK => ?_)
  go_wp2_with fail
  rw [← HW2.out]
  refine (pick_any _ _ _ _ _ _ _ _ (by omega) (by omega) H2.out.2.2.1).mono ?_
  rintro _ w3 ⟨x3, hx3, rfl, hd⟩
  have H3 : Hid (Bx w3 w.heap.size [.slice none 0 0] ∧ BoxS w3 g6 (.slice aG lg cG) ∧ VgAt w3 w0.heap.size g6 LV aV LG aG cG ∧ Below w.heap.size w w3) := ⟨H2.out.1.trn hd.2 (Or.inl (by omega)), boxs_trn H2.out.2.1 hd.2 (by omega), vg_trn H2.out.2.2.2.1 hd.2 (by omega), below_trn H2.out.2.2.2.2 hd.2 (by omega)⟩
  clear hd
  refine hK.out _ _ H3.out.2.1 (fun hHeld => ?_)
  clear hK KC
  refine take_v (v := ?_) 3 ⟨some 19, Op.binOp BinOp.add 3 (Operand.const (Value.int IntKind.i64 1)) (Operand.tmp 18) 3, _, _, _, none⟩ rfl (fun _ _ _ h => h) ?_ hHeld ?_
  rotate_left
  · (intro W _; go_simp <;> (try with_reducible rfl))
  refine take_v (v := ?_) 5 ⟨some 2, Op.assign (Operand.tmp 16), _, _, _, none⟩ rfl (fun _ _ _ h => h) ?_ hHeld ?_
  rotate_left
  · (intro W _; go_simp <;> (try with_reducible rfl))
  refine take_v (v := ?_) 6 ⟨some 3, Op.assign (Operand.tmp 19), _, _, _, none⟩ rfl (fun _ _ _ h => h) ?_ hHeld ?_
  rotate_left
  · (intro W _; go_simp <;> (try with_reducible rfl))
  refine ready_call 7 ⟨none, Op.store 25 (Operand.tmp 4) (Operand.tmp 20), _, _, _, none⟩ (by kernel_rfl) rfl (by kernel_rfl) (fun KC hK => ?_)
  have r0 := H3.out.1.cell 0 rfl
  have rf0 := H3.out.1.frz 0 (by simp)
  have rz0 := H3.out.1.2
  go_wp2_with fail
  clear r0 rf0 rz0
  refine hK.out _ _ (box_set H3.out.2.1 (by omega)) (fun hHeld => ?_)
  clear hK KC
  refine wpAnyH_done (by kernel_rfl) ?_ _
  refine NoPanic.normal ?_
  clear hHeld
  have HP : Hid (RvDrew w (.returned (.tuple #[.slice aV lv cV, .int .i64 (1 + x3), .agg #[.slice aG lg cG]])) (w3.setCell ⟨w.heap.size, 0, none⟩ (.slice aG lg cG))) := by
    obtain ⟨e1, e2⟩ := HLN.out
    subst e1 e2
    exact ⟨LV, aV, cV, 1 + x3, LG, aG, cG, g6, by omega, rfl, vg_wide (vg_set H3.out.2.2.1 (Or.inl hw00)) (by omega), H3.out.2.2.2.setCell (p := ⟨w.heap.size, 0, none⟩) (Nat.le_refl _) _⟩
  have HR : Hid (Bx (w3.setCell ⟨w.heap.size, 0, none⟩ (.slice aG lg cG)) w.heap.size [.slice aG lg cG]) := H3.out.1.set (k := 0) (by simp) (.slice aG lg cG)
  have r0 := HR.out.cell 0 rfl
  have hx30 : wrap64 (1 + x3) = 1 + x3 := by unfold wrap64; omega
  have hx31 : IntKind.i64.wrap (1 + x3) = 1 + x3 := by rw [IntKind.wrap_i64]; omega
  go_wp2
  exact bodyPost_ret (v := .tuple #[.slice aV lv cV, .int .i64 (1 + x3), .agg #[.slice aG lg cG]]) (by simp [results, Try.results15, go_sem, *]) rfl HP.out

set_option maxRecDepth 100000 in
set_option maxHeartbeats 2000000 in
theorem drawWrite_any (a : Option Addr) (n cap : Nat) (X : Nat → Int) (w : World) (hn : n ≤ 9223372036854775807) (hs : Sl w a n 1 (byF X)) (hX : ∀ i, i < n → 0 ≤ X i ∧ X i ≤ 255) :
    Calls Try.prog 18 #[.slice a n cap] w (RvDrew w) := by
  have HS : Hid (Sl w a n 1 (byF X) ∧ ∀ i, i < n → 0 ≤ X i ∧ X i ≤ 255) := ⟨hs, hX⟩
  clear hs hX
  obtain ⟨w0, hw0⟩ : ∃ x, x = w.alloc (.cells #[.slice none 0 0] 25) := ⟨_, rfl⟩
  have H0 : Hid (Bx w0 w.heap.size [.slice none 0 0] ∧ Below w.heap.size w w0) := by rw [hw0]; exact ⟨Bx.new w [.slice none 0 0] _, Go.Joins.below_alloc1 _ _⟩
  have hw00 : w.heap.size < w0.heap.size := H0.out.1.2
  go_enter Try.func18, Try.ntmps18
  go_wp2_with fail
  rw [← hw0]
  clear hw0
  refine (drawRead_any _ _ _ X _ hn (HS.out.1.kept H0.out.2) HS.out.2).mono ?_
  rintro _ w1 ⟨LV, aV, cV, t, LG, aG, cG, hi, ht, rfl, hV, hb⟩
  have H1 : Hid (Bx w1 w.heap.size [.slice none 0 0]) := H0.out.1.next hb
  have HP : Hid (RvDrew w (.returned (.tuple #[.slice aV LV.length cV, .int .i64 t, .agg #[.slice aG LG.length cG]])) (w1.setCell ⟨w.heap.size, 0, none⟩ (.slice aG LG.length cG))) := ⟨LV, aV, cV, t, LG, aG, cG, hi, ht, rfl, vg_wide (vg_set hV (Or.inl hw00)) (by omega), (below_next H0.out.2 hb).setCell (p := ⟨w.heap.size, 0, none⟩) (Nat.le_refl _) _⟩
  clear hb hV H0
  generalize LV.length = lv at *
  generalize LG.length = lg at *
  have r0 := H1.out.cell 0 rfl
  have rf0 := H1.out.frz 0 (by simp)
  have rz0 := H1.out.2
  go_wp2
  exact bodyPost_ret (v := .tuple #[.slice aV lv cV, .int .i64 t, .agg #[.slice aG lg cG]]) (by simp [results, Try.results18, go_sem, *]) rfl HP.out
end Go.Proofs.Ytalnmollgielcaa
