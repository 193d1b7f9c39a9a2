/- Fences: a fence while a step is taken (impl.openFence), what is owned. No walk is here. -/
import Derived.Test.YtcbdlalpnlahcaaFeR
import Derived.Test.YtcbdlalpnlahcaaFgI
import Derived.Test.YtcbdlalpnlahcaaSoM
import Derived.Test.YtcbdlalpnlahcaaShMp
namespace Go.Proofs.Ytcbdlalpnlahcaa
open Go.RowKit
set_option linter.unusedVariables false
set_option linter.unusedSimpArgs false

abbrev MbV := Try.MbV
/-- A member as the map has it. -/
def mbV (x : MbV) : Int × Value := (x.1, .agg #[.int .i64 x.1, .int .i64 x.2.1, .slice x.2.2.1.1 x.2.2.1.2.1 x.2.2.1.2.2, .int .i64 x.2.2.2])
/-- The members' cells and blocks. -/
def OpM (W : World) (lo : Nat) (L : List MbV) (ms : List (Sh.T shMember)) (B : Nat → Nat → Prop) : Prop :=
  L.length = ms.length ∧ (∀ i (hL : i < L.length) (hm : i < ms.length), OwnX W lo tyMember (Try.encMb L[i]) ms[i] (B i)) ∧ (∀ i j, i < ms.length → j < ms.length → i ≠ j → ∀ k, B i k → ¬ B j k) ∧ ∀ i, i < ms.length → ∀ k, B i k → lo ≤ k ∧ k < W.heap.size
def OpX (lo p b : Nat) (W : World) (ep du : Int) (ms : List (Sh.T shMember)) (en : List (Sh.T .int)) (L : List MbV) (B : Nat → Nat → Prop) (ve : Value) : Prop :=
  Bx W p [.int .i64 ep, .int .i64 du, .map (some b), ve] ∧ MpX W b (L.map mbV) ∧ OpM W lo L ms B ∧ OwnX W lo (.list .int 3) [ve] en (fun k => ve.ownBlock = some k) ∧ (∀ i, i < ms.length → ∀ k, B i k → k ≠ p ∧ k ≠ b ∧ ve.ownBlock ≠ some k) ∧ (∀ k, ve.ownBlock = some k → k ≠ p ∧ k ≠ b) ∧ p ≠ b ∧ lo ≤ p ∧ lo ≤ b
def OpS (lo p b : Nat) (W : World) (y : Sh.T shFence) : Prop := ∃ L B ve, OpX lo p b W y.1 y.2.1 y.2.2.1 y.2.2.2.1 L B ve
section
variable {lo p b : Nat} {W W' : World} {ep du : Int} {ms : List (Sh.T shMember)} {en : List (Sh.T .int)} {L : List MbV} {B : Nat → Nat → Prop} {ve : Value}
theorem OpM.id (h : OpM W lo L ms B) {i : Nat} (hL : i < L.length) (hm : i < ms.length) : L[i].1 = mid ms[i] ∧ L[i].2.1 = mep ms[i] ∧ L[i].2.2.2 = mac ms[i] ∧ L[i].2.2.1.2.1 = (mru ms[i]).length ∧ OwnX W lo (.list .int 3) [.slice L[i].2.2.1.1 L[i].2.2.1.2.1 L[i].2.2.1.2.2] (mru ms[i]) (B i) := by
  have ho : OwnX W lo tyMember (Try.encMb L[i]) (mid ms[i], mep ms[i], mru ms[i], mac ms[i], ()) (B i) := h.2.1 i hL hm
  obtain ⟨v1, S1, hc, h1, h2⟩ := ownx_Member ho
  unfold Try.encMb at hc
  simp only [List.cons.injEq, Value.int.injEq, and_true, true_and] at hc
  obtain ⟨q1, q2, q3, q4⟩ := hc
  subst q3
  obtain ⟨a, c, hv⟩ := h1.vform
  have hv : Value.slice L[i].2.2.1.1 L[i].2.2.1.2.1 L[i].2.2.1.2.2 = .slice a (List.length (α := Sh.T .int) (mru ms[i])) c := hv
  have hl : L[i].2.2.1.2.1 = (mru ms[i]).length := by injection hv
  exact ⟨q1, q2, q4, hl, h1.mono h2⟩
theorem OpX.ids (h : OpX lo p b W ep du ms en L B ve) {i : Nat} (hL : i < L.length) (hm : i < ms.length) : L[i].1 = mid ms[i] := (h.2.2.1.id hL hm).1
theorem OpX.turn {T : Nat → Prop} (h : OpX lo p b W ep du ms en L B ve) (ht : TurnS T W W') (hT : ∀ k, T k → W.heap.size ≤ k ∨ (k ≠ p ∧ k ≠ b ∧ ve.ownBlock ≠ some k ∧ ∀ i, i < ms.length → ¬ B i k)) : OpX lo p b W' ep du ms en L B ve := by
  obtain ⟨h1, h2, ⟨m1, m2, m3, m4⟩, h4, h5, h6, h7, h8, h9⟩ := h
  have hz := ht.size
  have hp := h1.2
  have hb := h2.lt
  have hev := (h4.tight rfl).2.1
  refine ⟨h1.turnS ht (fun q => ?_), h2.keep (ht.block hb (fun q => ?_)), ⟨m1, fun i hL hm => (m2 i hL hm).turn ht (fun k hk q => ?_), m3, fun i hi k hk => ⟨(m4 i hi k hk).1, Nat.lt_of_lt_of_le (m4 i hi k hk).2 hz⟩⟩, h4.turn ht (fun k hk q => ?_), h5, h6, h7, h8, h9⟩
  · rcases hT _ q with r | r
    · omega
    · exact r.1 rfl
  · rcases hT _ q with r | r
    · omega
    · exact r.2.1 rfl
  · have h0 := (m4 i hm k hk).2
    rcases hT _ q with r | r
    · omega
    · exact r.2.2.2 i hm hk
  · have h0 := (hev k hk).2
    rcases hT _ q with r | r
    · omega
    · exact r.2.2.1 hk
theorem OpX.next (h : OpX lo p b W ep du ms en L B ve) (hb : Below W.heap.size W W') : OpX lo p b W' ep du ms en L B ve := h.turn (T := fun _ => False) (TurnS.of_below hb) (fun k q => q.elim)
/-- A block that was made later is none of the fence's. -/
theorem OpX.other (h : OpX lo p b W ep du ms en L B ve) (hb : Below W.heap.size W W') {z j : Nat} (hz : W.heap.size ≤ z) (v : Value) : OpX lo p b (W'.setCell ⟨z, j, none⟩ v) ep du ms en L B ve := by
  have ht : TurnS (fun k => k = z) W (W'.setCell ⟨z, j, none⟩ v) := (TurnS.of_below hb).trans (turn_set _ ⟨z, j, none⟩ _)
  exact h.turn ht (fun k q => Or.inl (by have q : k = z := q; omega))
theorem OpX.sizes (h : OpX lo p b W ep du ms en L B ve) : p < W.heap.size ∧ b < W.heap.size ∧ (∀ k, ve.ownBlock = some k → lo ≤ k ∧ k < W.heap.size) := ⟨h.1.2, h.2.1.lt, (h.2.2.2.1.tight rfl).2.1⟩
end
/-- One member has turned, and perhaps what was ended. -/
theorem OpX.put {lo p b : Nat} {W W' : World} {ep du : Int} {ms : List (Sh.T shMember)} {en en' : List (Sh.T .int)} {L : List MbV} {B : Nat → Nat → Prop} {ve ve' : Value} {T B' : Nat → Prop} {i : Nat} {x' : MbV} {m' : Sh.T shMember}
    (h : OpX lo p b W ep du ms en L B ve) (hi : i < ms.length) (ht : TurnS T W W') (hT : ∀ k, T k → W.heap.size ≤ k ∨ B i k ∨ k = b ∨ k = p ∨ ve.ownBlock = some k) (hb1 : Bx W' p [.int .i64 ep, .int .i64 du, .map (some b), ve']) (hmp : MpX W' b ((L.set i x').map mbV)) (hx : OwnX W' lo tyMember (Try.encMb x') m' B') (hB' : ∀ k, B' k → lo ≤ k ∧ k < W'.heap.size ∧ (B i k ∨ W.heap.size ≤ k) ∧ ve'.ownBlock ≠ some k)
    (he : OwnX W' lo (.list .int 3) [ve'] en' (fun k => ve'.ownBlock = some k)) (hve : ∀ k, ve'.ownBlock = some k → ve.ownBlock = some k ∨ W.heap.size ≤ k) : OpX lo p b W' ep du (ms.set i m') en' (L.set i x') (fun j => if j = i then B' else B j) ve' := by
  obtain ⟨h1, h2, ⟨m1, m2, m3, m4⟩, h4, h5, h6, h7, h8, h9⟩ := h
  have hz := ht.size
  have hpz := h1.2
  have hbz := h2.lt
  have hev := (h4.tight rfl).2.1
  have hnew : ∀ k, B' k → k ≠ p ∧ k ≠ b := fun k hk => by
    rcases (hB' k hk).2.2.1 with q | q
    · exact ⟨(h5 i hi k q).1, (h5 i hi k q).2.1⟩
    · omega
  refine ⟨hb1, hmp, ⟨by rw [List.length_set, List.length_set, m1], fun j hL hm => ?_, fun j j' hj hj' hne k => ?_, fun j hj k => ?_⟩, he, fun j hj k => ?_, fun k hk => ?_, h7, h8, h9⟩
  · rw [List.length_set] at hL hm
    by_cases q : j = i
    · subst q
      simp only [List.getElem_set_self, if_true]
      exact hx
    · have e1 : (L.set i x')[j]'(by rw [List.length_set]; exact hL) = L[j] := by rw [List.getElem_set_ne (fun e => q e.symm)]
      have e2 : (ms.set i m')[j]'(by rw [List.length_set]; exact hm) = ms[j] := by rw [List.getElem_set_ne (fun e => q e.symm)]
      rw [e1, e2]
      simp only [if_neg q]
      exact (m2 j hL hm).turn ht (fun k hk r => by
        rcases hT k r with s | s | s | s | s
        · have := (m4 j hm k hk).2; omega
        · exact m3 j i hm hi q k hk s
        · exact (h5 j hm k hk).2.1 s
        · exact (h5 j hm k hk).1 s
        · exact (h5 j hm k hk).2.2 s)
  · rw [List.length_set] at hj hj'
    by_cases q : j = i
    · by_cases q' : j' = i
      · omega
      · simp only [if_pos q, if_neg q']
        intro hk hk'
        rcases (hB' k hk).2.2.1 with r | r
        · exact m3 i j' hi hj' (fun e => q' e.symm) k r hk'
        · have := (m4 j' hj' k hk').2; omega
    · by_cases q' : j' = i
      · simp only [if_neg q, if_pos q']
        intro hk hk'
        rcases (hB' k hk').2.2.1 with r | r
        · exact m3 j i hj hi q k hk r
        · have := (m4 j hj k hk).2; omega
      · simp only [if_neg q, if_neg q']
        exact m3 j j' hj hj' hne k
  · rw [List.length_set] at hj
    by_cases q : j = i
    · simp only [if_pos q]; intro hk; exact ⟨(hB' k hk).1, (hB' k hk).2.1⟩
    · simp only [if_neg q]; intro hk; exact ⟨(m4 j hj k hk).1, Nat.lt_of_lt_of_le (m4 j hj k hk).2 hz⟩
  · rw [List.length_set] at hj
    by_cases q : j = i
    · simp only [if_pos q]; intro hk; exact ⟨(hnew k hk).1, (hnew k hk).2, (hB' k hk).2.2.2⟩
    · simp only [if_neg q]; intro hk
      refine ⟨(h5 j hj k hk).1, (h5 j hj k hk).2.1, fun r => ?_⟩
      rcases hve k r with s | s
      · exact (h5 j hj k hk).2.2 s
      · have := (m4 j hj k hk).2; omega
  · rcases hve k hk with s | s
    · exact h6 k s
    · omega
end Go.Proofs.Ytcbdlalpnlahcaa
