/- Fences: one member of an open fence while a step turns it. No walk is here. -/
import Derived.Test.YtcbdlalpnlahcaaFoB
namespace Go.Proofs.Ytcbdlalpnlahcaa
open Go.RowKit
set_option linter.unusedVariables false
set_option linter.unusedSimpArgs false

/-- What a step on an open fence answers. -/
def StO (lo p b : Nat) (A : Option (Sh.T shFence)) (w : World) (r : Ending) (w' : World) : Prop := r = .returned (.bool A.isSome) ∧ Below lo w w' ∧ ∀ y, A = some y → OpS lo p b w' y
theorem StO.no {lo p b : Nat} {A : Option (Sh.T shFence)} {w w' : World} (h : A = none) (hb : Below lo w w') : StO lo p b A w (.returned (.bool false)) w' := by subst h; exact ⟨rfl, hb, fun y e => by cases e⟩
theorem StO.yes {lo p b : Nat} {A : Option (Sh.T shFence)} {w w' : World} {y : Sh.T shFence} (h : A = some y) (hb : Below lo w w') (hO : OpS lo p b w' y) : StO lo p b A w (.returned (.bool true)) w' := by subst h; exact ⟨rfl, hb, fun z e => by cases e; exact hO⟩
theorem OpX.at {lo p b : Nat} {W : World} {ep du : Int} {ms : List (Sh.T shMember)} {en : List (Sh.T .int)} {L : List MbV} {B : Nat → Nat → Prop} {ve : Value} (h : OpX lo p b W ep du ms en L B ve) {i : Nat} (hi : i < ms.length) :
    ∃ (hL : i < L.length) (x0 x1 : Int) (x2 : List (Sh.T .int)) (x3 : Int) (xa : Option Addr) (xc : Nat), L[i] = (x0, x1, (xa, x2.length, xc), x3) ∧ ms[i] = mkMb x0 x1 x2 x3 ∧ OwnX W lo (.list .int 3) [.slice xa x2.length xc] x2 (B i) := by
  have hL : i < L.length := by rw [h.2.2.1.1]; exact hi
  obtain ⟨h1, h2, h3, h4, h5⟩ := h.2.2.1.id hL hi
  refine ⟨hL, mid ms[i], mep ms[i], mru ms[i], mac ms[i], L[i].2.2.1.1, L[i].2.2.1.2.2, ?_, rfl, by rw [← h4]; exact h5⟩
  rw [← h1, ← h2, ← h3, ← h4]
/-- Where the member's key stands first in the map. -/
theorem OpX.first {lo p b : Nat} {W : World} {ep du : Int} {ms : List (Sh.T shMember)} {en : List (Sh.T .int)} {L : List MbV} {B : Nat → Nat → Prop} {ve : Value} (h : OpX lo p b W ep du ms en L B ve) (hm : memsP ep du ms ms.length) {i : Nat} (hi : i < ms.length) :
    ∃ hj : i < (L.map mbV).length, (L.map mbV)[i].1 = mid ms[i] ∧ ∀ z (hz : z < (L.map mbV).length), z < i → (L.map mbV)[z].1 ≠ mid ms[i] := by
  have hl := h.2.2.1.1
  refine ⟨by rw [List.length_map, hl]; exact hi, ?_, fun z hz hzi => ?_⟩
  · rw [List.getElem_map]; exact h.ids (by omega) hi
  · rw [List.length_map] at hz
    rw [List.getElem_map]
    have h1 : (mbV L[z]).1 = mid (ms[z]'(by omega)) := h.ids hz (by omega)
    have h2 := mid_mono hm i z hi (by omega) hzi
    omega
theorem OpX.absent {lo p b : Nat} {W : World} {ep du : Int} {ms : List (Sh.T shMember)} {en : List (Sh.T .int)} {L : List MbV} {B : Nat → Nat → Prop} {ve : Value} (h : OpX lo p b W ep du ms en L B ve) {id : Int} (hf : ms.findIdx? (fun m => decide (mid m = id)) = Option.none) : ∀ q ∈ L.map mbV, q.1 ≠ id := by
  intro q hq e
  obtain ⟨x, hx, rfl⟩ := List.mem_map.1 hq
  obtain ⟨j, hj, rfl⟩ := List.getElem_of_mem hx
  have hl := h.2.2.1.1
  have h1 := h.ids hj (show j < ms.length by omega)
  have e : L[j].1 = id := e
  have := List.findIdx?_eq_none_iff.1 hf (ms[j]'(by omega)) (List.getElem_mem _)
  simp at this
  exact this (h1.symm.trans e)
/-- Between: member i has turned in its box z, the map not yet. -/
def MidX (lo p b z : Nat) (W : World) (ep du : Int) (ms : List (Sh.T shMember)) (en : List (Sh.T .int)) (L : List MbV) (B : Nat → Nat → Prop) (ve : Value) (i : Nat) (X : World) (ve' : Value) (en' : List (Sh.T .int)) (x' : MbV) (m' : Sh.T shMember) : Prop :=
  OpX lo p b W ep du ms en L B ve ∧ i < ms.length ∧ (∃ T : Nat → Prop, TurnS T W X ∧ ∀ k, T k → W.heap.size ≤ k ∨ B i k ∨ k = p ∨ ve.ownBlock = some k) ∧ Bx X p [.int .i64 ep, .int .i64 du, .map (some b), ve'] ∧ Bx X z [.int .i64 x'.1, .int .i64 x'.2.1, .slice x'.2.2.1.1 x'.2.2.1.2.1 x'.2.2.1.2.2, .int .i64 x'.2.2.2] ∧ W.heap.size ≤ z ∧ MpX X b (L.map mbV) ∧
    (∃ B' : Nat → Prop, OwnX X lo tyMember (Try.encMb x') m' B' ∧ ∀ k, B' k → lo ≤ k ∧ k < X.heap.size ∧ k ≠ z ∧ (B i k ∨ W.heap.size ≤ k) ∧ ve'.ownBlock ≠ some k) ∧ OwnX X lo (.list .int 3) [ve'] en' (fun k => ve'.ownBlock = some k) ∧ (∀ k, ve'.ownBlock = some k → (ve.ownBlock = some k ∨ W.heap.size ≤ k) ∧ k ≠ z) ∧ lo ≤ W.heap.size
section
variable {lo p b z : Nat} {W X X' : World} {ep du : Int} {ms : List (Sh.T shMember)} {en en' : List (Sh.T .int)} {L : List MbV} {B : Nat → Nat → Prop} {ve ve' : Value} {i : Nat} {x' : MbV} {m' : Sh.T shMember}
theorem MidX.start (h : OpX lo p b W ep du ms en L B ve) (hi : i < ms.length) (hlo : lo ≤ W.heap.size) {x0 x1 x3 : Int} {x2 : List (Sh.T .int)} {xa : Option Addr} {xc : Nat} (hL : i < L.length) (e1 : L[i] = (x0, x1, (xa, x2.length, xc), x3)) (e2 : ms[i] = mkMb x0 x1 x2 x3) :
    MidX lo p b W.heap.size W ep du ms en L B ve i (W.alloc (.cells #[.int .i64 x0, .int .i64 x1, .slice xa x2.length xc, .int .i64 x3] 37)) ve en (x0, x1, (xa, x2.length, xc), x3) (mkMb x0 x1 x2 x3) := by
  have hb := Go.Joins.below_alloc1 W (.cells #[.int .i64 x0, .int .i64 x1, .slice xa x2.length xc, .int .i64 x3] 37)
  have hz : (W.alloc (.cells #[.int .i64 x0, .int .i64 x1, .slice xa x2.length xc, .int .i64 x3] 37)).heap.size = W.heap.size + 1 := by simp
  have hn := h.next hb
  have hs := h.sizes
  have hm := h.2.2.1.2.2.2 i hi
  refine ⟨h, hi, ⟨fun _ => False, TurnS.of_below hb, fun k q => q.elim⟩, hn.1, Bx.new W [_, _, _, _] _, Nat.le_refl _, hn.2.1, ⟨B i, ?_, fun k q => ⟨(hm k q).1, by have := (hm k q).2; omega, by have := (hm k q).2; omega, Or.inl q, (h.2.2.2.2.1 i hi k q).2.2⟩⟩, hn.2.2.2.1, fun k q => ⟨Or.inl q, by have := (hs.2.2 k q).2; omega⟩, hlo⟩
  have := hn.2.2.1.2.1 i hL hi
  rw [e1, e2] at this
  exact this
theorem MidX.next (h : MidX lo p b z W ep du ms en L B ve i X ve' en' x' m') (hb : Below X.heap.size X X') : MidX lo p b z W ep du ms en L B ve i X' ve' en' x' m' := by
  obtain ⟨h1, h2, ⟨T, ht, hT⟩, h4, h5, h6, h7, ⟨B', h8, h9⟩, h10, h11, h12⟩ := h
  exact ⟨h1, h2, ⟨T, ht.next hb, hT⟩, h4.next hb, h5.next hb, h6, h7.keep (hb.block b h7.lt), ⟨B', h8.next hb, fun k q => ⟨(h9 k q).1, Nat.lt_of_lt_of_le (h9 k q).2.1 hb.size, (h9 k q).2.2⟩⟩, h10.next hb, h11, h12⟩
theorem MidX.below (h : MidX lo p b z W ep du ms en L B ve i X ve' en' x' m') : Below lo W X := by
  obtain ⟨h1, h2, ⟨T, ht, hT⟩, h4, h5, h6, h7, ⟨B', h8, h9⟩, h10, h11, h12⟩ := h
  have hs := h1.sizes
  have hm := h1.2.2.1.2.2.2 i h2
  refine ht.below (fun k q => ?_) h12
  rcases hT k q with r | r | r | r
  · omega
  · exact (hm k r).1
  · rw [r]; exact h1.2.2.2.2.2.2.2.1
  · exact (hs.2.2 k r).1
theorem MidX.zs (h : MidX lo p b z W ep du ms en L B ve i X ve' en' x' m') : z ≠ p ∧ z ≠ b ∧ z < X.heap.size := by
  have hs := h.1.sizes
  have h6 := h.2.2.2.2.2.1
  exact ⟨by omega, by omega, h.2.2.2.2.1.2⟩
/-- A field of the member that is a number is set. -/
theorem MidX.set1 {x0 x1 x3 : Int} {x2 : List (Sh.T .int)} {xa : Option Addr} {n xc : Nat} (h : MidX lo p b z W ep du ms en L B ve i X ve' en' (x0, x1, (xa, n, xc), x3) (mkMb x0 x1 x2 x3)) (e : Int) : MidX lo p b z W ep du ms en L B ve i (X.setCell ⟨z, 1, none⟩ (.int .i64 e)) ve' en' (x0, e, (xa, n, xc), x3) (mkMb x0 e x2 x3) := by
  have hz := h.zs
  obtain ⟨h1, h2, ⟨T, ht, hT⟩, h4, h5, h6, h7, ⟨B', h8, h9⟩, h10, h11, h12⟩ := h
  obtain ⟨v1, S1, hc, h13, h14⟩ := ownx_Member (x0 := x0) (x1 := x1) (x2 := x2) (x3 := x3) h8
  have hc : v1 = .slice xa n xc := by
    unfold Try.encMb at hc
    simp only [List.cons.injEq, and_true, true_and] at hc
    exact hc.symm
  subst hc
  refine ⟨h1, h2, ⟨fun k => T k ∨ k = z, TurnS.set (S := fun k => T k ∨ k = z) (ht.wide (fun k q => Or.inl q)) (p := ⟨z, 1, none⟩) (Or.inr rfl) _, fun k q => ?_⟩, h4.other hz.1.symm, h5.set (k := 1) (by simp) _, h6, h7.keep (Below.heap_setCell _ _ _ _ hz.2.1.symm), ⟨B', mkownx_Member (x0 := x0) (x1 := e) (x3 := x3) ((h13.mono h14).set (p := ⟨z, 1, none⟩) (fun q => (h9 _ q).2.2.1 rfl) _) (fun k q => q), fun k q => by rw [World.size_setCell]; exact h9 k q⟩, h10.set (p := ⟨z, 1, none⟩) (fun q => (h11 _ q).2 rfl) _, h11, h12⟩
  rcases q with q | q
  · exact hT k q
  · exact Or.inl (by omega)
theorem MidX.set3 {x0 x1 x3 : Int} {x2 : List (Sh.T .int)} {xa : Option Addr} {n xc : Nat} (h : MidX lo p b z W ep du ms en L B ve i X ve' en' (x0, x1, (xa, n, xc), x3) (mkMb x0 x1 x2 x3)) (e : Int) : MidX lo p b z W ep du ms en L B ve i (X.setCell ⟨z, 3, none⟩ (.int .i64 e)) ve' en' (x0, x1, (xa, n, xc), e) (mkMb x0 x1 x2 e) := by
  have hz := h.zs
  obtain ⟨h1, h2, ⟨T, ht, hT⟩, h4, h5, h6, h7, ⟨B', h8, h9⟩, h10, h11, h12⟩ := h
  obtain ⟨v1, S1, hc, h13, h14⟩ := ownx_Member (x0 := x0) (x1 := x1) (x2 := x2) (x3 := x3) h8
  have hc : v1 = .slice xa n xc := by
    unfold Try.encMb at hc
    simp only [List.cons.injEq, and_true, true_and] at hc
    exact hc.symm
  subst hc
  refine ⟨h1, h2, ⟨fun k => T k ∨ k = z, TurnS.set (S := fun k => T k ∨ k = z) (ht.wide (fun k q => Or.inl q)) (p := ⟨z, 3, none⟩) (Or.inr rfl) _, fun k q => ?_⟩, h4.other hz.1.symm, h5.set (k := 3) (by simp) _, h6, h7.keep (Below.heap_setCell _ _ _ _ hz.2.1.symm), ⟨B', mkownx_Member (x0 := x0) (x1 := x1) (x3 := e) ((h13.mono h14).set (p := ⟨z, 3, none⟩) (fun q => (h9 _ q).2.2.1 rfl) _) (fun k q => q), fun k q => by rw [World.size_setCell]; exact h9 k q⟩, h10.set (p := ⟨z, 3, none⟩) (fun q => (h11 _ q).2 rfl) _, h11, h12⟩
  rcases q with q | q
  · exact hT k q
  · exact Or.inl (by omega)
/-- What runs has turned: a row of its own, the old one or a new one. -/
theorem MidX.run {x0 x1 x3 : Int} {x2 y2 : List (Sh.T .int)} {xa a9 : Option Addr} {n xc n9 c9 : Nat} {S9 : Nat → Prop} (h : MidX lo p b z W ep du ms en L B ve i X ve' en' (x0, x1, (xa, n, xc), x3) (mkMb x0 x1 x2 x3)) (hg : X.grownBy X' (Value.slice xa n xc).ownBlock) (ho : OwnX X' lo (.list .int 3) [.slice a9 n9 c9] y2 S9) (hS : ∀ k, S9 k → (Value.slice xa n xc).ownBlock = some k ∨ X.heap.size ≤ k) : MidX lo p b z W ep du ms en L B ve i (X'.setCell ⟨z, 2, none⟩ (.slice a9 n9 c9)) ve' en' (x0, x1, (a9, n9, c9), x3) (mkMb x0 x1 y2 x3) := by
  have hz := h.zs
  obtain ⟨h1, h2, ⟨T, ht, hT⟩, h4, h5, h6, h7, ⟨B', h8, h9⟩, h10, h11, h12⟩ := h
  obtain ⟨v1, S1, hc, h13, h14⟩ := ownx_Member (x0 := x0) (x1 := x1) (x2 := x2) (x3 := x3) h8
  have hc : v1 = .slice xa n xc := by
    unfold Try.encMb at hc
    simp only [List.cons.injEq, and_true, true_and] at hc
    exact hc.symm
  subst hc
  have hrow : ∀ k, (Value.slice xa n xc).ownBlock = some k → B' k := fun k q => h14 k ((h13.tight rfl).2.2 k q)
  have hgz := hg.size
  have h6' := ho.tight rfl
  have hzz := ht.size
  have hp := h4.2
  have hb := h7.lt
  have hbs := h1.sizes
  have h5b := h1.2.2.2.2.1 i h2
  have hB'p : ∀ k, B' k → k ≠ p ∧ k ≠ b := fun k q => by
    rcases (h9 k q).2.2.2.1 with r | r
    · exact ⟨(h5b k r).1, (h5b k r).2.1⟩
    · omega
  have hnew : ∀ k, (Value.slice a9 n9 c9).ownBlock = some k → B' k ∨ X.heap.size ≤ k := fun k q => by
    rcases hS k (h6'.2.2 k q) with r | r
    · exact Or.inl (hrow k r)
    · exact Or.inr r
  have h5' := h5.grow hg (fun q => (h9 _ (hrow _ q.symm)).2.2.1 rfl)
  refine ⟨h1, h2, ⟨fun k => T k ∨ B' k ∨ k = z, ?_, fun k q => ?_⟩, (h4.grow hg (fun q => (hB'p _ (hrow _ q.symm)).1 rfl)).other hz.1.symm, h5'.set (k := 2) (by simp) _, h6, (h7.keep (hg.block b hb (fun q => (hB'p _ (hrow _ q.symm)).2 rfl))).keep (Below.heap_setCell _ _ _ _ hz.2.1.symm), ⟨fun k => (Value.slice a9 n9 c9).ownBlock = some k, mkownx_Member (x0 := x0) (x1 := x1) (x3 := x3) (h6'.1.set (p := ⟨z, 2, none⟩) (fun q => ?_) _) (fun k q => q), fun k q => ?_⟩, (h10.grow hg (fun k q r => (h9 k (hrow k q)).2.2.2.2 r)).set (p := ⟨z, 2, none⟩) (fun q => (h11 _ q).2 rfl) _, h11, h12⟩
  · have h0 : TurnS (fun k => T k ∨ B' k ∨ k = z) W X' := (ht.wide (fun k q => Or.inl q)).grown hg (fun k q => Or.inl (Or.inr (Or.inl (hrow k q))))
    exact h0.set (p := ⟨z, 2, none⟩) (Or.inr (Or.inr rfl)) _
  · rcases q with q | q | q
    · exact hT k q
    · rcases (h9 k q).2.2.2.1 with r | r
      · exact Or.inr (Or.inl r)
      · exact Or.inl r
    · exact Or.inl (by omega)
  · rcases hnew _ q with r | r
    · exact (h9 _ r).2.2.1 rfl
    · have r : X.heap.size ≤ z := r; omega
  · rw [World.size_setCell]
    have hk := h6'.2.1 k q
    rcases hnew k q with r | r
    · have h0 := h9 k r; exact ⟨hk.1, hk.2, h0.2.2.1, h0.2.2.2.1, h0.2.2.2.2⟩
    · refine ⟨hk.1, hk.2, by omega, Or.inr (by omega), fun s => ?_⟩
      have := ((h10.tight rfl).2.1 k s).2
      omega
/-- The member is stored into the map. -/
theorem MidX.fin (h : MidX lo p b z W ep du ms en L B ve i X ve' en' x' m') (hg : X.grownBy X' (some b)) (hmp : MpX X' b ((L.map mbV).set i (mbV x'))) : (∃ B9, OpX lo p b X' ep du (ms.set i m') en' (L.set i x') B9 ve') ∧ Bx X' p [.int .i64 ep, .int .i64 du, .map (some b), ve'] ∧ Bx X' z [.int .i64 x'.1, .int .i64 x'.2.1, .slice x'.2.2.1.1 x'.2.2.1.2.1 x'.2.2.1.2.2, .int .i64 x'.2.2.2] ∧ Below lo W X' := by
  have hbl := h.below
  have hz := h.zs
  obtain ⟨h1, h2, ⟨T, ht, hT⟩, h4, h5, h6, h7, ⟨B', h8, h9⟩, h10, h11, h12⟩ := h
  have hpb : p ≠ b := h1.2.2.2.2.2.2.1
  have hgz := hg.size
  have hzz := ht.size
  have h5b := h1.2.2.2.2.1 i h2
  have hbs := h1.sizes
  have hlb : lo ≤ b := h1.2.2.2.2.2.2.2.2
  have hb4 : Bx X' p [.int .i64 ep, .int .i64 du, .map (some b), ve'] := h4.grow hg (fun q => hpb (by simpa using q))
  have hvb : ∀ k, ve'.ownBlock = some k → k ≠ b := fun k q => by
    rcases (h11 k q).1 with r | r
    · exact (h1.2.2.2.2.2.1 k r).2
    · omega
  have hfin : Below lo W X' := hbl.grown hg (Nat.le_trans h12 hzz) (fun k q => by
    have q : b = k := by simpa using q
    omega)
  refine ⟨⟨_, h1.put h2 (T := fun k => T k ∨ k = b) ((ht.wide (fun k q => Or.inl q)).grown hg (fun k q => Or.inl (Or.inr (by simpa using q.symm)))) (fun k q => ?_) hb4 (by rw [List.map_set]; exact hmp) (h8.grow hg (fun k q r => ?_)) (fun k q => ?_) (h10.grow hg (fun k q r => ?_)) (fun k q => (h11 k q).1)⟩, hb4, h5.grow hg (fun q => hz.2.1 (by simpa using q)), hfin⟩
  · rcases q with q | q
    · rcases hT k q with r | r | r | r
      · exact Or.inl r
      · exact Or.inr (Or.inl r)
      · exact Or.inr (Or.inr (Or.inr (Or.inl r)))
      · exact Or.inr (Or.inr (Or.inr (Or.inr r)))
    · exact Or.inr (Or.inr (Or.inl q))
  · have q : b = k := by simpa using q
    subst q
    rcases (h9 _ r).2.2.2.1 with s | s
    · exact (h5b _ s).2.1 rfl
    · omega
  · have h0 := h9 k q
    exact ⟨h0.1, by omega, h0.2.2.2.1, h0.2.2.2.2⟩
  · have q : b = k := by simpa using q
    exact hvb k r q.symm
end
end Go.Proofs.Ytcbdlalpnlahcaa
