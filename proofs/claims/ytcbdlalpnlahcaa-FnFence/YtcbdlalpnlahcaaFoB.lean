/- Fences: impl.openedFence. Written by tools/mkFoB.py. -/
import Derived.Test.YtcbdlalpnlahcaaFoA
import Derived.Deep.DeepCutAuto
namespace Go.Proofs.Ytcbdlalpnlahcaa
open Go.RowKit
set_option linter.unusedVariables false
set_option linter.unusedSimpArgs false

/-- A member more, at the end of the map. -/
theorem OpX.app {lo p b : Nat} {W W' : World} {ep du : Int} {ms : List (Sh.T shMember)} {en : List (Sh.T .int)} {L : List MbV} {B : Nat → Nat → Prop} {ve : Value} {B' : Nat → Prop} {x' : MbV} {m' : Sh.T shMember}
    (h : OpX lo p b W ep du ms en L B ve) (ht : TurnS (fun k => k = b) W W') (hmp : MpX W' b ((L ++ [x']).map mbV)) (hx : OwnX W lo tyMember (Try.encMb x') m' B') (hB' : ∀ k, B' k → lo ≤ k ∧ k < W.heap.size ∧ k ≠ p ∧ k ≠ b ∧ ve.ownBlock ≠ some k ∧ ∀ i, i < ms.length → ¬ B i k) : OpX lo p b W' ep du (ms ++ [m']) en (L ++ [x']) (fun j => if j = ms.length then B' else B j) ve := by
  obtain ⟨h1, h2, ⟨m1, m2, m3, m4⟩, h4, h5, h6, h7, h8, h9⟩ := h
  have hz := ht.size
  have hev := (h4.tight rfl).2.1
  have hl : (ms ++ [m']).length = ms.length + 1 := by simp
  refine ⟨h1.turnS ht (fun q => h7 q), hmp, ⟨by simp [m1], fun j hL hm => ?_, fun j j' hj hj' hne k => ?_, fun j hj k => ?_⟩, h4.turn ht (fun k hk q => (h6 k hk).2 q), fun j hj k => ?_, h6, h7, h8, h9⟩
  · rw [hl] at hm
    by_cases q : j = ms.length
    · have e1 : (L ++ [x'])[j]'hL = x' := by rw [List.getElem_append_right (by omega)]; simp
      have e2 : (ms ++ [m'])[j]'(by omega) = m' := by rw [List.getElem_append_right (by omega)]; simp
      rw [e1, e2]
      simp only [if_pos q]
      exact hx.turn ht (fun k hk r => (hB' k hk).2.2.2.1 r)
    · have e1 : (L ++ [x'])[j]'hL = L[j]'(by omega) := by rw [List.getElem_append_left]
      have e2 : (ms ++ [m'])[j]'(by omega) = ms[j]'(by omega) := by rw [List.getElem_append_left]
      rw [e1, e2]
      simp only [if_neg q]
      exact (m2 j (by omega) (by omega)).turn ht (fun k hk r => (h5 j (by omega) k hk).2.1 r)
  · rw [hl] at hj hj'
    by_cases q : j = ms.length
    · by_cases q' : j' = ms.length
      · omega
      · simp only [if_pos q, if_neg q']
        exact fun hk hk' => (hB' k hk).2.2.2.2.2 j' (by omega) hk'
    · by_cases q' : j' = ms.length
      · simp only [if_neg q, if_pos q']
        exact fun hk hk' => (hB' k hk').2.2.2.2.2 j (by omega) hk
      · simp only [if_neg q, if_neg q']
        exact m3 j j' (by omega) (by omega) hne k
  · rw [hl] at hj
    by_cases q : j = ms.length
    · simp only [if_pos q]; intro hk; exact ⟨(hB' k hk).1, Nat.lt_of_lt_of_le (hB' k hk).2.1 hz⟩
    · simp only [if_neg q]; intro hk; exact ⟨(m4 j (by omega) k hk).1, Nat.lt_of_lt_of_le (m4 j (by omega) k hk).2 hz⟩
  · rw [hl] at hj
    by_cases q : j = ms.length
    · simp only [if_pos q]; intro hk; exact ⟨(hB' k hk).2.2.1, (hB' k hk).2.2.2.1, (hB' k hk).2.2.2.2.1⟩
    · simp only [if_neg q]; intro hk; exact h5 j (by omega) k hk
/-- What openedFence answers: a pointer to a fence of its own, open. -/
def OpP (y : Sh.T shFence) (w : World) (r : Ending) (w' : World) : Prop := ∃ p b, r = .returned (.pointer (some ⟨p, 0, none⟩)) ∧ OpS w.heap.size p b w' y ∧ Below w.heap.size w w'

set_option maxRecDepth 100000 in
set_option maxHeartbeats 8000000 in
theorem openedFence_n (cs : List Value) (ep du : Int) (ms : List (Sh.T shMember)) (en : List (Sh.T .int)) (w : World) (hG : goodF ep du ms en) (h : Lies w shFence cs (ep, du, ms, en, ())) :
    Calls Try.prog 49 #[.agg cs.toArray] w (OpP (mkFe ep du ms en) w) := by
  obtain ⟨a1, k1, a2, k2, rfl, h1, h2⟩ := lies_Fence h
  have HL : Hid (FeL w a1 k1 a2 k2 ms en) := ⟨h1, h2⟩
  have HM := Hid.intro hG.2.2.2.2.1
  have hm8 := hG.2.2.1
  have htt := hG.2.2.2.1
  have hen : en.length ≤ 200 := by omega
  clear h h1 h2 hG htt
  obtain ⟨w0, hw0⟩ : ∃ x, x = w.alloc (.cells #[.int .i64 ep, .int .i64 du, .slice a1 ms.length k1, .slice a2 en.length k2] 29) := ⟨_, rfl⟩
  have HB0 : Hid (Bx w0.drew w.heap.size [.int .i64 ep, .int .i64 du, .slice a1 ms.length k1, .slice a2 en.length k2] ∧ Below w.heap.size w w0.drew ∧ w.heap.size < w0.drew.heap.size) := ⟨(hw0 ▸ Bx.new w [_, _, _, _] _ : Bx w0 _ _).next (below_drew _), below_next (hw0 ▸ Go.Joins.below_alloc1 _ _ : Below w.heap.size w w0) (below_drew _), by show _ < w0.heap.size; rw [hw0]; simp⟩
  obtain ⟨i1, hi1, hy0, hy1, hy2⟩ := info_parts inf_int
  have hbE : ([] : List (Sh.T .int)).length + en.length ≤ maxLen := by simp; unfold maxLen; omega
  have hcE : (([] : List (Sh.T .int)).length + en.length) * 8 ≤ 140737488355328 := by simp; omega
  go_enter Try.func49, Try.ntmps49
  go_upto_region 1 with fail
  rw [← hw0]
  clear hw0
  go_cut [3] (fun s3 wx => ∃ p b ve B, s3 = .pointer (some ⟨p, 0, none⟩) ∧ Bx wx w.heap.size [.int .i64 ep, .int .i64 du, .slice a1 ms.length k1, .slice a2 en.length k2] ∧ OpX w.heap.size p b wx ep du [] en [] B ve ∧ Below w.heap.size w wx ∧ w.heap.size < p ∧ w.heap.size < b ∧ ve.ownBlock ≠ some w.heap.size)
  case first =>
    refine wp_region_noPanic ?_
    refine wp_region_held_drew (S := fun W => Bx W w.heap.size [.int .i64 ep, .int .i64 du, .slice a1 ms.length k1, .slice a2 en.length k2]) (by kernel_rfl) HB0.out.1 (fun hHeld => ?_)
    obtain ⟨Y0, hWE⟩ : ∃ x, x = w0.drew := ⟨_, rfl⟩
    rw [← hWE] at HB0 hHeld ⊢
    clear hWE
    refine take_v (v := ?_) 0 ⟨some 6, Op.fieldAddr 29 (Operand.tmp 1) 0, _, _, _, none⟩ rfl (fun _ _ _ h => h) ?_ hHeld ?_
    rotate_left
    · (intro W _; go_simp <;> (try with_reducible rfl))
    refine take_v (v := ?_) 1 ⟨some 7, Op.load 3 (Operand.tmp 6), _, _, _, none⟩ rfl (fun _ _ _ h => h) ?_ hHeld ?_
    rotate_left
    · (intro W hSW; (have s0 := hSW.cell 0 rfl; have s1 := hSW.cell 1 rfl; have s3 := hSW.cell 3 rfl; have sz := hSW.2); go_simp <;> (try with_reducible rfl))
    refine take_v (v := ?_) 2 ⟨some 8, Op.fieldAddr 29 (Operand.tmp 1) 1, _, _, _, none⟩ rfl (fun _ _ _ h => h) ?_ hHeld ?_
    rotate_left
    · (intro W _; go_simp <;> (try with_reducible rfl))
    refine take_v (v := ?_) 3 ⟨some 9, Op.load 3 (Operand.tmp 8), _, _, _, none⟩ rfl (fun _ _ _ h => h) ?_ hHeld ?_
    rotate_left
    · (intro W hSW; (have s0 := hSW.cell 0 rfl; have s1 := hSW.cell 1 rfl; have s3 := hSW.cell 3 rfl; have sz := hSW.2); go_simp <;> (try with_reducible rfl))
    refine take_v (v := ?_) 5 ⟨some 11, Op.fieldAddr 29 (Operand.tmp 1) 3, _, _, _, none⟩ rfl (fun _ _ _ h => h) ?_ hHeld ?_
    rotate_left
    · (intro W _; go_simp <;> (try with_reducible rfl))
    refine take_v (v := ?_) 6 ⟨some 12, Op.load 27 (Operand.tmp 11), _, _, _, none⟩ rfl (fun _ _ _ h => h) ?_ hHeld ?_
    rotate_left
    · (intro W hSW; (have s0 := hSW.cell 0 rfl; have s1 := hSW.cell 1 rfl; have s3 := hSW.cell 3 rfl; have sz := hSW.2); go_simp <;> (try with_reducible rfl))
    refine ready_two 4 7 ⟨some 10, Op.makeMap 89 none, _, _, _, none⟩ ⟨some 13, Op.call { callee := Callee.builtin Builtin.append, args := #[Operand.const (Value.slice none 0 0), Operand.tmp 12], argTypes := #[27, 27] }, _, _, _, none⟩ (by kernel_rfl) rfl rfl (by kernel_rfl) (by kernel_rfl) (fun KC hK => ?_) (fun KC hK => ?_)
    ·
      refine wp_makeMap (by rfl) ?_
      (first | (obtain ⟨Y2, hY2⟩ : ∃ x, x = Y1.alloc (.map #[] 0) := ⟨_, rfl⟩; obtain ⟨b, hbb⟩ : ∃ q, q = Y1.heap.size := ⟨_, rfl⟩; have hb : Below Y1.heap.size Y1 Y2 := hY2 ▸ Go.Joins.below_alloc1 _ _; have hz : Y2.heap.size = Y1.heap.size + 1 := (by rw [hY2]; simp); have HBm : Hid (MpX Y2 b [] ∧ w.heap.size < b ∧ b < Y2.heap.size) := ⟨hbb ▸ hY2 ▸ MpX.made Y1, by have := HB0.out.2.2; omega, by omega⟩; have HBe := (show Hid (OwnX Y2 w.heap.size (.list .int 3) [.slice a9 en.length c9] en (fun k => (Value.slice a9 en.length c9).ownBlock = some k) ∧ (∀ k, (Value.slice a9 en.length c9).ownBlock = some k → w.heap.size < k ∧ k < Y2.heap.size ∧ k ≠ b)) from ⟨HBe.out.1.next hb, fun k q => by have := HBe.out.2 k q; omega⟩); have HB0 := (show Hid (Bx Y2 w.heap.size [.int .i64 ep, .int .i64 du, .slice a1 ms.length k1, .slice a2 en.length k2] ∧ Below w.heap.size w Y2 ∧ w.heap.size < Y2.heap.size) from ⟨HB0.out.1.next hb, below_next HB0.out.2.1 hb, by have := HB0.out.2.2; omega⟩); rw [← hY2, ← hbb]; clear hY2 hbb hb hz) | (obtain ⟨Y2, hY2⟩ : ∃ x, x = Y0.alloc (.map #[] 0) := ⟨_, rfl⟩; obtain ⟨b, hbb⟩ : ∃ q, q = Y0.heap.size := ⟨_, rfl⟩; have hb : Below Y0.heap.size Y0 Y2 := hY2 ▸ Go.Joins.below_alloc1 _ _; have hz : Y2.heap.size = Y0.heap.size + 1 := (by rw [hY2]; simp); have HBm : Hid (MpX Y2 b [] ∧ w.heap.size < b ∧ b < Y2.heap.size) := ⟨hbb ▸ hY2 ▸ MpX.made Y0, by have := HB0.out.2.2; omega, by omega⟩; have HB0 := (show Hid (Bx Y2 w.heap.size [.int .i64 ep, .int .i64 du, .slice a1 ms.length k1, .slice a2 en.length k2] ∧ Below w.heap.size w Y2 ∧ w.heap.size < Y2.heap.size) from ⟨HB0.out.1.next hb, below_next HB0.out.2.1 hb, by have := HB0.out.2.2; omega⟩); rw [← hY2, ← hbb]; clear hY2 hbb hb hz))
      refine hK.out _ _ HB0.out.1 (fun hHeld => ?_)
      clear hK KC
      refine ready_call 7 ⟨some 13, Op.call { callee := Callee.builtin Builtin.append, args := #[Operand.const (Value.slice none 0 0), Operand.tmp 12], argTypes := #[27, 27] }, _, _, _, none⟩ (by kernel_rfl) rfl (by kernel_rfl) (fun KC hK => ?_)
      have hlo7 := Nat.le_of_lt HB0.out.2.2
      refine wp_appx (.const (.slice none 0 0)) (.tmp 12) 27 3 (by rfl) i1 (.int .i64 0) 8 w.heap.size .int rfl Try.underlying27 hi1 hy0 hy1 hy2 rfl (by decide) (.slice none 0 0) [] en (fun _ => False) (by rfl) OwnX.nil' a2 k2 (by rfl) (HL.out.2.next HB0.out.2.1) hbE hcE hlo7 ?_
      intro v7 Y1 hO7 hg7 hwh7
      have hO7 : OwnX Y1 w.heap.size (.list .int 3) [v7] en _ := hO7
      have hb : Below _ _ Y1 := ⟨hg7.os, hg7.tape, hg7.output, hg7.size, fun k hk => hg7.block k hk (fun q => by cases q)⟩
      obtain ⟨a9, c9, hv8⟩ := hO7.vform
      have hv8 : v7 = .slice a9 (List.length (α := Sh.T .int) en) c9 := hv8
      subst hv8
      have h6 := hO7.tight rfl
      have hz := hb.size
      (first | (have HBe := (show Hid (OwnX Y1 w.heap.size (.list .int 3) [.slice a9 en.length c9] en (fun k => (Value.slice a9 en.length c9).ownBlock = some k) ∧ (∀ k, (Value.slice a9 en.length c9).ownBlock = some k → w.heap.size < k ∧ k < Y1.heap.size ∧ k ≠ b)) from ⟨h6.1, fun k q => by have h1 := h6.2.2 k q; have h2 := (h6.2.1 k q).2; have h3 := HB0.out.2.2; have h4 := HBm.out.2.2; rcases h1 with r | r; exact r.elim; omega⟩)) | (have HBe := (show Hid (OwnX Y1 w.heap.size (.list .int 3) [.slice a9 en.length c9] en (fun k => (Value.slice a9 en.length c9).ownBlock = some k) ∧ (∀ k, (Value.slice a9 en.length c9).ownBlock = some k → w.heap.size < k ∧ k < Y1.heap.size)) from ⟨h6.1, fun k q => by have h1 := h6.2.2 k q; have h2 := (h6.2.1 k q).2; have h3 := HB0.out.2.2; rcases h1 with r | r; exact r.elim; omega⟩)))
      (first | (have HBm := (show Hid (MpX Y1 b [] ∧ w.heap.size < b ∧ b < Y1.heap.size) from ⟨HBm.out.1.keep (hb.block b HBm.out.2.2), HBm.out.2.1, by have := HBm.out.2.2; omega⟩)) | skip)
      have HB0 := (show Hid (Bx Y1 w.heap.size [.int .i64 ep, .int .i64 du, .slice a1 ms.length k1, .slice a2 en.length k2] ∧ Below w.heap.size w Y1 ∧ w.heap.size < Y1.heap.size) from ⟨HB0.out.1.next hb, below_next HB0.out.2.1 hb, by have := HB0.out.2.2; omega⟩)
      clear hO7 hg7 hwh7 hb h6 hz hlo7
      refine hK.out _ _ HB0.out.1 (fun hHeld => ?_)
      clear hK KC
      refine take_v (v := ?_) 8 ⟨some 14, Op.build 91 #[(0, Operand.tmp 7), (1, Operand.tmp 9), (2, Operand.tmp 10), (3, Operand.tmp 13)], _, _, _, none⟩ rfl (fun _ _ _ h => h) ?_ hHeld ?_
      rotate_left
      · (intro W _; go_simp <;> (try with_reducible rfl))
      refine ready_call 9 ⟨some 15, Op.box 91 (Operand.tmp 14), _, _, _, none⟩ (by kernel_rfl) rfl (by kernel_rfl) (fun KC hK => ?_)
      go_wp2_with fail
      (first | (obtain ⟨Y3, hY3⟩ : ∃ x, x = Y1.alloc (.cells #[.int .i64 ep, .int .i64 du, .map (some b), .slice a9 en.length c9] 91) := ⟨_, rfl⟩; obtain ⟨p, hp⟩ : ∃ q, q = Y1.heap.size := ⟨_, rfl⟩; have hb : Below Y1.heap.size Y1 Y3 := hY3 ▸ Go.Joins.below_alloc1 _ _; have HX : Hid (Bx Y3 w.heap.size [.int .i64 ep, .int .i64 du, .slice a1 ms.length k1, .slice a2 en.length k2] ∧ OpX w.heap.size p b Y3 ep du [] en [] (fun _ _ => False) (.slice a9 en.length c9) ∧ Below w.heap.size w Y3 ∧ w.heap.size < p ∧ w.heap.size < b ∧ (Value.slice a9 en.length c9).ownBlock ≠ some w.heap.size) := ⟨HB0.out.1.next hb, ⟨hp ▸ hY3 ▸ Bx.new Y1 [_, _, _, _] _, HBm.out.1.keep (hb.block b HBm.out.2.2), ⟨rfl, fun i hL _ => absurd hL (by simp), fun i j hi => absurd hi (by simp), fun i hi => absurd hi (by simp)⟩, HBe.out.1.next hb, fun i hi => absurd hi (by simp), fun k q => by have := HBe.out.2 k q; omega, by have := HBm.out.2.2; omega, by have := HB0.out.2.2; omega, by have := HBm.out.2.1; omega⟩, below_next HB0.out.2.1 hb, by have := HB0.out.2.2; omega, HBm.out.2.1, fun q => by have := HBe.out.2 _ q; omega⟩; rw [← hY3, ← hp]; clear hY3 hp hb) | (obtain ⟨Y3, hY3⟩ : ∃ x, x = Y2.alloc (.cells #[.int .i64 ep, .int .i64 du, .map (some b), .slice a9 en.length c9] 91) := ⟨_, rfl⟩; obtain ⟨p, hp⟩ : ∃ q, q = Y2.heap.size := ⟨_, rfl⟩; have hb : Below Y2.heap.size Y2 Y3 := hY3 ▸ Go.Joins.below_alloc1 _ _; have HX : Hid (Bx Y3 w.heap.size [.int .i64 ep, .int .i64 du, .slice a1 ms.length k1, .slice a2 en.length k2] ∧ OpX w.heap.size p b Y3 ep du [] en [] (fun _ _ => False) (.slice a9 en.length c9) ∧ Below w.heap.size w Y3 ∧ w.heap.size < p ∧ w.heap.size < b ∧ (Value.slice a9 en.length c9).ownBlock ≠ some w.heap.size) := ⟨HB0.out.1.next hb, ⟨hp ▸ hY3 ▸ Bx.new Y2 [_, _, _, _] _, HBm.out.1.keep (hb.block b HBm.out.2.2), ⟨rfl, fun i hL _ => absurd hL (by simp), fun i j hi => absurd hi (by simp), fun i hi => absurd hi (by simp)⟩, HBe.out.1.next hb, fun i hi => absurd hi (by simp), fun k q => by have := HBe.out.2 k q; omega, by have := HBm.out.2.2; omega, by have := HB0.out.2.2; omega, by have := HBm.out.2.1; omega⟩, below_next HB0.out.2.1 hb, by have := HB0.out.2.2; omega, HBm.out.2.1, fun q => by have := HBe.out.2 _ q; omega⟩; rw [← hY3, ← hp]; clear hY3 hp hb))
      refine hK.out _ _ HX.out.1 (fun hHeld => ?_)
      clear hK KC
      refine take_v (v := ?_) 10 ⟨some 3, Op.assign (Operand.tmp 15), _, _, _, none⟩ rfl (fun _ _ _ h => h) ?_ hHeld ?_
      rotate_left
      · (intro W _; go_simp <;> (try with_reducible rfl))
      refine wpAnyH_done (by kernel_rfl) ?_ _
      refine NoPanic.normal ?_
      clear hHeld
      go_wp2_with fail
      go_meet
      exact ⟨p, b, _, _, rfl, HX.out⟩
    ·
      have hlo7 := Nat.le_of_lt HB0.out.2.2
      refine wp_appx (.const (.slice none 0 0)) (.tmp 12) 27 3 (by rfl) i1 (.int .i64 0) 8 w.heap.size .int rfl Try.underlying27 hi1 hy0 hy1 hy2 rfl (by decide) (.slice none 0 0) [] en (fun _ => False) (by rfl) OwnX.nil' a2 k2 (by rfl) (HL.out.2.next HB0.out.2.1) hbE hcE hlo7 ?_
      intro v7 Y1 hO7 hg7 hwh7
      have hO7 : OwnX Y1 w.heap.size (.list .int 3) [v7] en _ := hO7
      have hb : Below _ _ Y1 := ⟨hg7.os, hg7.tape, hg7.output, hg7.size, fun k hk => hg7.block k hk (fun q => by cases q)⟩
      obtain ⟨a9, c9, hv8⟩ := hO7.vform
      have hv8 : v7 = .slice a9 (List.length (α := Sh.T .int) en) c9 := hv8
      subst hv8
      have h6 := hO7.tight rfl
      have hz := hb.size
      (first | (have HBe := (show Hid (OwnX Y1 w.heap.size (.list .int 3) [.slice a9 en.length c9] en (fun k => (Value.slice a9 en.length c9).ownBlock = some k) ∧ (∀ k, (Value.slice a9 en.length c9).ownBlock = some k → w.heap.size < k ∧ k < Y1.heap.size ∧ k ≠ b)) from ⟨h6.1, fun k q => by have h1 := h6.2.2 k q; have h2 := (h6.2.1 k q).2; have h3 := HB0.out.2.2; have h4 := HBm.out.2.2; rcases h1 with r | r; exact r.elim; omega⟩)) | (have HBe := (show Hid (OwnX Y1 w.heap.size (.list .int 3) [.slice a9 en.length c9] en (fun k => (Value.slice a9 en.length c9).ownBlock = some k) ∧ (∀ k, (Value.slice a9 en.length c9).ownBlock = some k → w.heap.size < k ∧ k < Y1.heap.size)) from ⟨h6.1, fun k q => by have h1 := h6.2.2 k q; have h2 := (h6.2.1 k q).2; have h3 := HB0.out.2.2; rcases h1 with r | r; exact r.elim; omega⟩)))
      (first | (have HBm := (show Hid (MpX Y1 b [] ∧ w.heap.size < b ∧ b < Y1.heap.size) from ⟨HBm.out.1.keep (hb.block b HBm.out.2.2), HBm.out.2.1, by have := HBm.out.2.2; omega⟩)) | skip)
      have HB0 := (show Hid (Bx Y1 w.heap.size [.int .i64 ep, .int .i64 du, .slice a1 ms.length k1, .slice a2 en.length k2] ∧ Below w.heap.size w Y1 ∧ w.heap.size < Y1.heap.size) from ⟨HB0.out.1.next hb, below_next HB0.out.2.1 hb, by have := HB0.out.2.2; omega⟩)
      clear hO7 hg7 hwh7 hb h6 hz hlo7
      refine hK.out _ _ HB0.out.1 (fun hHeld => ?_)
      clear hK KC
      refine ready_call 4 ⟨some 10, Op.makeMap 89 none, _, _, _, none⟩ (by kernel_rfl) rfl (by kernel_rfl) (fun KC hK => ?_)
      refine wp_makeMap (by rfl) ?_
      (first | (obtain ⟨Y2, hY2⟩ : ∃ x, x = Y1.alloc (.map #[] 0) := ⟨_, rfl⟩; obtain ⟨b, hbb⟩ : ∃ q, q = Y1.heap.size := ⟨_, rfl⟩; have hb : Below Y1.heap.size Y1 Y2 := hY2 ▸ Go.Joins.below_alloc1 _ _; have hz : Y2.heap.size = Y1.heap.size + 1 := (by rw [hY2]; simp); have HBm : Hid (MpX Y2 b [] ∧ w.heap.size < b ∧ b < Y2.heap.size) := ⟨hbb ▸ hY2 ▸ MpX.made Y1, by have := HB0.out.2.2; omega, by omega⟩; have HBe := (show Hid (OwnX Y2 w.heap.size (.list .int 3) [.slice a9 en.length c9] en (fun k => (Value.slice a9 en.length c9).ownBlock = some k) ∧ (∀ k, (Value.slice a9 en.length c9).ownBlock = some k → w.heap.size < k ∧ k < Y2.heap.size ∧ k ≠ b)) from ⟨HBe.out.1.next hb, fun k q => by have := HBe.out.2 k q; omega⟩); have HB0 := (show Hid (Bx Y2 w.heap.size [.int .i64 ep, .int .i64 du, .slice a1 ms.length k1, .slice a2 en.length k2] ∧ Below w.heap.size w Y2 ∧ w.heap.size < Y2.heap.size) from ⟨HB0.out.1.next hb, below_next HB0.out.2.1 hb, by have := HB0.out.2.2; omega⟩); rw [← hY2, ← hbb]; clear hY2 hbb hb hz) | (obtain ⟨Y2, hY2⟩ : ∃ x, x = Y0.alloc (.map #[] 0) := ⟨_, rfl⟩; obtain ⟨b, hbb⟩ : ∃ q, q = Y0.heap.size := ⟨_, rfl⟩; have hb : Below Y0.heap.size Y0 Y2 := hY2 ▸ Go.Joins.below_alloc1 _ _; have hz : Y2.heap.size = Y0.heap.size + 1 := (by rw [hY2]; simp); have HBm : Hid (MpX Y2 b [] ∧ w.heap.size < b ∧ b < Y2.heap.size) := ⟨hbb ▸ hY2 ▸ MpX.made Y0, by have := HB0.out.2.2; omega, by omega⟩; have HB0 := (show Hid (Bx Y2 w.heap.size [.int .i64 ep, .int .i64 du, .slice a1 ms.length k1, .slice a2 en.length k2] ∧ Below w.heap.size w Y2 ∧ w.heap.size < Y2.heap.size) from ⟨HB0.out.1.next hb, below_next HB0.out.2.1 hb, by have := HB0.out.2.2; omega⟩); rw [← hY2, ← hbb]; clear hY2 hbb hb hz))
      refine hK.out _ _ HB0.out.1 (fun hHeld => ?_)
      clear hK KC
      refine take_v (v := ?_) 8 ⟨some 14, Op.build 91 #[(0, Operand.tmp 7), (1, Operand.tmp 9), (2, Operand.tmp 10), (3, Operand.tmp 13)], _, _, _, none⟩ rfl (fun _ _ _ h => h) ?_ hHeld ?_
      rotate_left
      · (intro W _; go_simp <;> (try with_reducible rfl))
      refine ready_call 9 ⟨some 15, Op.box 91 (Operand.tmp 14), _, _, _, none⟩ (by kernel_rfl) rfl (by kernel_rfl) (fun KC hK => ?_)
      go_wp2_with fail
      (first | (obtain ⟨Y3, hY3⟩ : ∃ x, x = Y1.alloc (.cells #[.int .i64 ep, .int .i64 du, .map (some b), .slice a9 en.length c9] 91) := ⟨_, rfl⟩; obtain ⟨p, hp⟩ : ∃ q, q = Y1.heap.size := ⟨_, rfl⟩; have hb : Below Y1.heap.size Y1 Y3 := hY3 ▸ Go.Joins.below_alloc1 _ _; have HX : Hid (Bx Y3 w.heap.size [.int .i64 ep, .int .i64 du, .slice a1 ms.length k1, .slice a2 en.length k2] ∧ OpX w.heap.size p b Y3 ep du [] en [] (fun _ _ => False) (.slice a9 en.length c9) ∧ Below w.heap.size w Y3 ∧ w.heap.size < p ∧ w.heap.size < b ∧ (Value.slice a9 en.length c9).ownBlock ≠ some w.heap.size) := ⟨HB0.out.1.next hb, ⟨hp ▸ hY3 ▸ Bx.new Y1 [_, _, _, _] _, HBm.out.1.keep (hb.block b HBm.out.2.2), ⟨rfl, fun i hL _ => absurd hL (by simp), fun i j hi => absurd hi (by simp), fun i hi => absurd hi (by simp)⟩, HBe.out.1.next hb, fun i hi => absurd hi (by simp), fun k q => by have := HBe.out.2 k q; omega, by have := HBm.out.2.2; omega, by have := HB0.out.2.2; omega, by have := HBm.out.2.1; omega⟩, below_next HB0.out.2.1 hb, by have := HB0.out.2.2; omega, HBm.out.2.1, fun q => by have := HBe.out.2 _ q; omega⟩; rw [← hY3, ← hp]; clear hY3 hp hb) | (obtain ⟨Y3, hY3⟩ : ∃ x, x = Y2.alloc (.cells #[.int .i64 ep, .int .i64 du, .map (some b), .slice a9 en.length c9] 91) := ⟨_, rfl⟩; obtain ⟨p, hp⟩ : ∃ q, q = Y2.heap.size := ⟨_, rfl⟩; have hb : Below Y2.heap.size Y2 Y3 := hY3 ▸ Go.Joins.below_alloc1 _ _; have HX : Hid (Bx Y3 w.heap.size [.int .i64 ep, .int .i64 du, .slice a1 ms.length k1, .slice a2 en.length k2] ∧ OpX w.heap.size p b Y3 ep du [] en [] (fun _ _ => False) (.slice a9 en.length c9) ∧ Below w.heap.size w Y3 ∧ w.heap.size < p ∧ w.heap.size < b ∧ (Value.slice a9 en.length c9).ownBlock ≠ some w.heap.size) := ⟨HB0.out.1.next hb, ⟨hp ▸ hY3 ▸ Bx.new Y2 [_, _, _, _] _, HBm.out.1.keep (hb.block b HBm.out.2.2), ⟨rfl, fun i hL _ => absurd hL (by simp), fun i j hi => absurd hi (by simp), fun i hi => absurd hi (by simp)⟩, HBe.out.1.next hb, fun i hi => absurd hi (by simp), fun k q => by have := HBe.out.2 k q; omega, by have := HBm.out.2.2; omega, by have := HB0.out.2.2; omega, by have := HBm.out.2.1; omega⟩, below_next HB0.out.2.1 hb, by have := HB0.out.2.2; omega, HBm.out.2.1, fun q => by have := HBe.out.2 _ q; omega⟩; rw [← hY3, ← hp]; clear hY3 hp hb))
      refine hK.out _ _ HX.out.1 (fun hHeld => ?_)
      clear hK KC
      refine take_v (v := ?_) 10 ⟨some 3, Op.assign (Operand.tmp 15), _, _, _, none⟩ rfl (fun _ _ _ h => h) ?_ hHeld ?_
      rotate_left
      · (intro W _; go_simp <;> (try with_reducible rfl))
      refine wpAnyH_done (by kernel_rfl) ?_ _
      refine NoPanic.normal ?_
      clear hHeld
      go_wp2_with fail
      go_meet
      exact ⟨p, b, _, _, rfl, HX.out⟩
  case rest =>
    obtain ⟨p, b, ve, B, rfl, hbx, hop, hB, hp, hb0, hve⟩ := hcut
    have HI : Hid (Bx wc w.heap.size [.int .i64 ep, .int .i64 du, .slice a1 ms.length k1, .slice a2 en.length k2] ∧ OpX w.heap.size p b wc ep du [] en [] B ve ∧ Below w.heap.size w wc) := ⟨hbx, hop, hB⟩
    have hpn : ¬ p = w.heap.size := by omega
    clear hbx hop hB
    have s0 := (HI.out.1).cell 0 rfl; have s1 := (HI.out.1).cell 1 rfl; have s2 := (HI.out.1).cell 2 rfl; have s3 := (HI.out.1).cell 3 rfl; have sz := (HI.out.1).2
    go_wp2
    clear s0 s1 s2 s3 sz
    go_loopw [19] (fun i wr => ∃ (k : Nat) (L : List MbV) (B : Nat → Nat → Prop), k ≤ ms.length ∧ i = .int .i64 k ∧ OpX w.heap.size p b wr ep du (ms.take k) en L B ve ∧ Below w.heap.size w wr) (fun i _ => ms.length - (intOf i).toNat)
    case atStart => exact ⟨0, [], B, Nat.zero_le _, rfl, by rw [List.take_zero]; exact HI.out.2.1, HI.out.2.2⟩
    case round =>
      obtain ⟨k, L, B, hk, rfl, hop, hBr⟩ := hrel
      clear HI
      by_cases hlt : k < ms.length
      · have hlt' : (k : Int) < (ms.length : Int) := by omega
        have HLE : Hid (Lies wr (.list shMember) [.slice a1 ms.length k1] ms) := HL.out.1.next hBr
        have HME := Hid.intro (HM.out k hlt hlt).1
        have HNE : Hid (∀ q ∈ L.map mbV, q.1 ≠ mid ms[k]) := Hid.intro (fun q hq e => by
          obtain ⟨x, hx, rfl⟩ := List.mem_map.1 hq
          obtain ⟨j, hj, rfl⟩ := List.getElem_of_mem hx
          have hl := hop.2.2.1.1
          have hj2 : j < (ms.take k).length := by omega
          have h1 := hop.ids hj hj2
          have hj3 : j < k := by rw [List.length_take] at hj2; omega
          have e2 : (ms.take k)[j] = ms[j]'(by omega) := List.getElem_take
          rw [e2] at h1
          have h2 := mid_mono HM.out k j hlt (by omega) hj3
          have e : L[j].1 = mid ms[k] := e
          omega)
        obtain ⟨xg, xoff, xgo, xgs, xec, xel, xhec, xle⟩ := Lies.elem (HLE.out) hlt
        subst xgo
        rcases xX : ms[k] with ⟨x0, x1, x2, x3, ⟨⟩⟩
        rw [xX] at xle
        have xH : Hid (ms[k] = (x0, x1, x2, x3, ())) := xX
        clear xX
        obtain ⟨xa1, xk1, xev, xq1⟩ := lies_Member xle
        subst xev
        have xc0 : wr.cell? ⟨xg, xoff + k * 4, none⟩ = some (.int .i64 x0) := xhec 0 (by simp)
        have xc1 : wr.cell? ⟨xg, xoff + k * 4 + 1, none⟩ = some (.int .i64 x1) := xhec 1 (by simp)
        have xc2 : wr.cell? ⟨xg, xoff + k * 4 + 2, none⟩ = some (.slice xa1 x2.length xk1) := xhec 2 (by simp)
        have xc3 : wr.cell? ⟨xg, xoff + k * 4 + 3, none⟩ = some (.int .i64 x3) := xhec 3 (by simp)
        clear xhec xel xle
        rw [xH.out] at HNE HME
        have HNE : Hid (∀ q ∈ L.map mbV, q.1 ≠ x0) := HNE
        have HPT : Hid (ms.take (k + 1) = ms.take k ++ [mkMb x0 x1 x2 x3]) := Hid.intro (by rw [List.take_succ_eq_append_getElem hlt, xH.out]; rfl)
        have hx20 : x2.length ≤ 20 := HME.out.2.2.1
        have HQ : Hid (Lies wr (.list .int) [.slice xa1 x2.length xk1] x2) := xq1
        have HX : Hid (OpX w.heap.size p b wr ep du (ms.take k) en L B ve ∧ Below w.heap.size w wr) := ⟨hop, hBr⟩
        clear hop hBr xq1
        obtain ⟨W1, hW1⟩ : ∃ x, x = wr.alloc (.cells #[.int .i64 x0, .int .i64 x1, .slice xa1 x2.length xk1, .int .i64 x3] 37) := ⟨_, rfl⟩
        have HW1 : Hid (Below wr.heap.size wr W1 ∧ Bx W1 wr.heap.size [.int .i64 x0, .int .i64 x1, .slice xa1 x2.length xk1, .int .i64 x3] ∧ W1.heap.size = wr.heap.size + 1) := ⟨hW1 ▸ Go.Joins.below_alloc1 _ _, hW1 ▸ Bx.new wr [_, _, _, _] _, by rw [hW1]; simp⟩
        have hbV : ([] : List (Sh.T .int)).length + x2.length ≤ maxLen := by simp; unfold maxLen; omega
        have hcV : (([] : List (Sh.T .int)).length + x2.length) * 8 ≤ 140737488355328 := by simp; omega
        go_upto_region 5 with fail
        rw [← hW1]
        clear hW1 xc0 xc1 xc2 xc3
        have m2 := HW1.out.2.1.cell 2 rfl
        have mz := HW1.out.2.1.2
        go_upto_region 6 with (first | (at_builtin; refine wpList_appx rfl (.const (.slice none 0 0)) (.tmp 24) 27 3 rfl i1 (.int .i64 0) 8 w.heap.size .int rfl Try.underlying27 hi1 hy0 hy1 hy2 rfl (by decide) (.slice none 0 0) [] x2 (fun _ => False) rfl OwnX.nil' xa1 xk1 rfl (HQ.out.next HW1.out.1) hbV hcV (by have h1 := HX.out.2.size; have h2 := HW1.out.2.2; omega) ?_; intro v9 w9 hO9 hg9 hwh9; have hO9 : OwnX w9 w.heap.size (.list .int 3) [v9] x2 _ := hO9; obtain ⟨a9, c9, hv8⟩ := hO9.vform; have hv8 : v9 = .slice a9 (List.length (α := Sh.T .int) x2) c9 := hv8; subst hv8; have H9 : Hid (OwnX w9 w.heap.size (.list .int 3) [.slice a9 x2.length c9] x2 (fun k => (Value.slice a9 x2.length c9).ownBlock = some k) ∧ (∀ k, (Value.slice a9 x2.length c9).ownBlock = some k → wr.heap.size < k ∧ k < w9.heap.size) ∧ Below W1.heap.size W1 w9 ∧ Bx w9 wr.heap.size [.int .i64 x0, .int .i64 x1, .slice xa1 x2.length xk1, .int .i64 x3]) := Hid.intro (by have hb : Below W1.heap.size W1 w9 := ⟨hg9.os, hg9.tape, hg9.output, hg9.size, fun k hk => hg9.block k hk (fun q => by cases q)⟩; have h6 := hO9.tight rfl; exact ⟨h6.1, fun k q => by have h1 := h6.2.2 k q; have h2 := (h6.2.1 k q).2; have h3 := HW1.out.2.2; rcases h1 with r | r; exact r.elim; omega, hb, HW1.out.2.1.next hb⟩); clear hO9 hg9 hwh9 m2 mz; have m2 := H9.out.2.2.2.cell 2 rfl; have mz := H9.out.2.2.2.2; have mf2 := H9.out.2.2.2.frz 2 (by simp)))
        clear m2 mz mf2
        obtain ⟨W2, hW2⟩ : ∃ x, x = w9.setCell ⟨wr.heap.size, 2, none⟩ (.slice a9 x2.length c9) := ⟨_, rfl⟩
        rw [← hW2]
        have HC : Hid (OpX w.heap.size p b W2.drew ep du (ms.take k) en L B ve ∧ Below w.heap.size w W2.drew ∧ Bx W2.drew wr.heap.size [.int .i64 x0, .int .i64 x1, .slice a9 x2.length c9, .int .i64 x3] ∧ OwnX W2.drew w.heap.size (.list .int 3) [.slice a9 x2.length c9] x2 (fun k => (Value.slice a9 x2.length c9).ownBlock = some k) ∧ (∀ k, (Value.slice a9 x2.length c9).ownBlock = some k → wr.heap.size < k ∧ k < W2.drew.heap.size) ∧ wr.heap.size < W2.drew.heap.size) := Hid.intro (by
          have hb9 : Below wr.heap.size wr w9 := below_next HW1.out.1 H9.out.2.2.1
          have hz := H9.out.2.2.2.2
          have hz2 : W2.drew.heap.size = w9.heap.size := by show W2.heap.size = _; rw [hW2]; simp
          have hlt2 : ∀ k, (Value.slice a9 x2.length c9).ownBlock = some k → k ≠ wr.heap.size := fun k q => by have := (H9.out.2.1 k q).1; omega
          refine ⟨(hW2 ▸ HX.out.1.other hb9 (Nat.le_refl _) _ : OpX w.heap.size p b W2 ep du (ms.take k) en L B ve).next (below_drew _), below_next ((hW2 ▸ (below_next HX.out.2 hb9).setCell (p := ⟨wr.heap.size, 2, none⟩) HX.out.2.size _ : Below w.heap.size w W2)) (below_drew _), (hW2 ▸ H9.out.2.2.2.set (k := 2) (by simp) _ : Bx W2 wr.heap.size [.int .i64 x0, .int .i64 x1, .slice a9 x2.length c9, .int .i64 x3]).next (below_drew _), (hW2 ▸ H9.out.1.set (p := ⟨wr.heap.size, 2, none⟩) (fun q => hlt2 _ q rfl) _ : OwnX W2 w.heap.size _ _ _ _).next (below_drew _), fun k q => ?_, ?_⟩
          · have := H9.out.2.1 k q; omega
          · omega)
        clear hW2 H9 HW1
        have hpr : ¬ p = wr.heap.size := by have := HX.out.1.sizes.1; omega
        refine wp_region_noPanic ?_
        refine wp_region_held_drew (S := fun W => Bx W p [.int .i64 ep, .int .i64 du, .map (some b), ve] ∧ Bx W wr.heap.size [.int .i64 x0, .int .i64 x1, .slice a9 x2.length c9, .int .i64 x3]) (by kernel_rfl) ⟨HC.out.1.1, HC.out.2.2.1⟩ (fun hHeld => ?_)
        obtain ⟨Y0, hWE⟩ : ∃ x, x = W2.drew := ⟨_, rfl⟩
        rw [← hWE] at HC hHeld ⊢
        clear hWE
        refine take_v (v := ?_) 0 ⟨some 27, Op.move (Operand.tmp 3), _, _, _, none⟩ rfl (fun _ _ _ h => h) ?_ hHeld ?_
        rotate_left
        · (intro W _; go_simp <;> (try with_reducible rfl))
        refine take_v (v := ?_) 1 ⟨some 28, Op.nilCheck (Operand.tmp 27), _, _, _, none⟩ rfl (fun _ _ _ h => h) ?_ hHeld ?_
        rotate_left
        · (intro W _; go_simp <;> (try with_reducible rfl))
        refine take_v (v := ?_) 2 ⟨some 29, Op.fieldAddr 91 (Operand.tmp 28) 2, _, _, _, none⟩ rfl (fun _ _ _ h => h) ?_ hHeld ?_
        rotate_left
        · (intro W _; go_simp <;> (try with_reducible rfl))
        refine take_v (v := ?_) 3 ⟨some 30, Op.load 89 (Operand.tmp 29), _, _, _, none⟩ rfl (fun _ _ _ h => h) ?_ hHeld ?_
        rotate_left
        · (intro W hSW; (have s2 := hSW.1.cell 2 rfl; have sz := hSW.1.2; have m0 := hSW.2.cell 0 rfl; have m1 := hSW.2.cell 1 rfl; have m2 := hSW.2.cell 2 rfl; have m3 := hSW.2.cell 3 rfl; have mz := hSW.2.2); go_simp <;> (try with_reducible rfl))
        refine take_v (v := ?_) 4 ⟨some 31, Op.fieldAddr 37 (Operand.tmp 5) 0, _, _, _, none⟩ rfl (fun _ _ _ h => h) ?_ hHeld ?_
        rotate_left
        · (intro W _; go_simp <;> (try with_reducible rfl))
        refine take_v (v := ?_) 5 ⟨some 32, Op.load 3 (Operand.tmp 31), _, _, _, none⟩ rfl (fun _ _ _ h => h) ?_ hHeld ?_
        rotate_left
        · (intro W hSW; (have s2 := hSW.1.cell 2 rfl; have sz := hSW.1.2; have m0 := hSW.2.cell 0 rfl; have m1 := hSW.2.cell 1 rfl; have m2 := hSW.2.cell 2 rfl; have m3 := hSW.2.cell 3 rfl; have mz := hSW.2.2); go_simp <;> (try with_reducible rfl))
        refine take_v (v := ?_) 6 ⟨some 33, Op.load 37 (Operand.tmp 5), _, _, _, none⟩ rfl (fun _ _ _ h => h) ?_ hHeld ?_
        rotate_left
        · (intro W hSW; (have s2 := hSW.1.cell 2 rfl; have sz := hSW.1.2; have m0 := hSW.2.cell 0 rfl; have m1 := hSW.2.cell 1 rfl; have m2 := hSW.2.cell 2 rfl; have m3 := hSW.2.cell 3 rfl; have mz := hSW.2.2); go_simp <;> (try with_reducible rfl))
        refine ready_call 7 ⟨none, Op.mapUpdate 89 (Operand.tmp 30) (Operand.tmp 32) (Operand.tmp 33), _, _, _, none⟩ (by kernel_rfl) rfl (by kernel_rfl) (fun KC hK => ?_)
        refine wp_store_new (.tmp 30) (.tmp 32) (.tmp 33) (by rfl) Try.underlying89 Try.underlying3 HC.out.1.2.1 (by rfl) (by rfl) (by rfl) HNE.out ?_
        intro Y1 hmp hg hz
        have HF : Hid (OpX w.heap.size p b Y1 ep du (ms.take k ++ [mkMb x0 x1 x2 x3]) en (L ++ [(x0, x1, (a9, x2.length, c9), x3)]) (fun j => if j = (ms.take k).length then (fun k => (Value.slice a9 x2.length c9).ownBlock = some k) else B j) ve ∧ Below w.heap.size w Y1 ∧ Bx Y1 wr.heap.size [.int .i64 x0, .int .i64 x1, .slice a9 x2.length c9, .int .i64 x3]) := Hid.intro (by
          have ht : TurnS (fun k => k = b) Y0 Y1 := ⟨hg.os, hg.tape, hg.output, hg.size, fun j hj hs => hg.block j hj (fun q => hs (by cases q; rfl))⟩
          have hxz := HX.out.1.sizes
          have hl9 := HX.out.1.2.2.1.2.2.2
          refine ⟨OpX.app HC.out.1 ht (by rw [List.map_append]; exact hmp) (mkownx_Member (x0 := x0) (x1 := x1) (x3 := x3) HC.out.2.2.2.1 (fun j q => q)) (fun j q => ?_), HC.out.2.1.trans (ht.below (fun j q => by have q : j = b := q; omega) HC.out.2.1.size), HC.out.2.2.1.turnS ht (fun q => by have q : wr.heap.size = b := q; omega)⟩
          have h1 := HC.out.2.2.2.2.1 j q
          have h0 := HX.out.2.size
          exact ⟨by omega, h1.2, by omega, by omega, fun r => by have := (hxz.2.2 j r).2; omega, fun i hi r => by have := (hl9 i hi j r).2; omega⟩)
        clear hmp hg hz
        refine hK.out _ _ ⟨HF.out.1.1, HF.out.2.2⟩ (fun hHeld => ?_)
        clear hK KC
        refine wpAnyH_done (by kernel_rfl) ?_ _
        refine NoPanic.normal ?_
        clear hHeld
        go_wp2_with fail
        go_roundw
        case rel => exact ⟨k + 1, _, _, by omega, by go_num, by rw [HPT.out]; exact HF.out.1, HF.out.2.1⟩
        case measure => simp [intOf]; omega
      · have hkn : k = ms.length := by omega
        have HF : Hid (OpP (mkFe ep du ms en) w (.returned (.pointer (some ⟨p, 0, none⟩))) wr) := Hid.intro ⟨p, b, rfl, ⟨L, B, ve, by have := hop; rw [hkn, List.take_length] at this; exact this⟩, hBr⟩
        clear hop hBr
        go_wp2
        go_ret
        exact HF.out
end Go.Proofs.Ytcbdlalpnlahcaa
