/- A store that came in: the law's own function toStore. Written by tools/mkStT.py. -/
import Derived.Test.YtenfaofhoheleaaGreatSt
namespace Go.Proofs.YtenfaofhoheleaaGreat
open Go.RowKit
set_option linter.unusedVariables false

theorem RecordR.set {w : World} {g g' q n : Nat} {v : Value} {V : Nat → RecordV} (h : RecordR w g n V) (hg : g ≠ g') : RecordR (w.setCell ⟨g', q, none⟩ v) g n V := by
  have e : (w.setCell ⟨g', q, none⟩ v).heap[g]? = w.heap[g]? := Below.heap_setCell _ _ _ _ (fun e => hg e)
  exact ⟨h.1.same e, h.2.1.same e, by simpa using h.2.2⟩
theorem RecordR.trn {w w' : World} {B C g n : Nat} {V : Nat → RecordV} (h : RecordR w g n V) (ht : Trn B C w w') (ha : g < B ∨ C ≤ g) : RecordR w' g n V :=
  ⟨h.1.same (ht.2.2.2.2 g h.2.2 ha), h.2.1.same (ht.2.2.2.2 g h.2.2 ha), Nat.lt_of_lt_of_le h.2.2 ht.2.2.2.1⟩
theorem RuR.set {w : World} {B C g g' q n : Nat} {v : Value} {V : Nat → RuV} {A : Nat → RuA} (h : RuR w B C g n V A) (hg : g' < B) : RuR (w.setCell ⟨g', q, none⟩ v) B C g n V A :=
  h.trn ((Trn.refl g' (g' + 1) w).set (p := ⟨g', q, none⟩) (Nat.le_refl _) (by simp) v) (Or.inr hg)
theorem IntS.setO {w : World} {B C g' q n : Nat} {a : Option Addr} {v : Value} {X : Nat → Int} (h : IntS w B C a n X) (hg : g' < B) : IntS (w.setCell ⟨g', q, none⟩ v) B C a n X :=
  Turned.ints ((Turned.refl g' (g' + 1) w).set (p := ⟨g', q, none⟩) (Nat.le_refl _) (by simp) v) h (Or.inr hg)
/-- A store whose lists lie in blocks of B..C-1 that may be written. -/
def StIn (w : World) (B C : Nat) (A : StA) (V : StV) : Prop :=
  ∃ g1 g2 g3 : Nat, A = ⟨some ⟨g1, 0, none⟩, V.rn, some ⟨g2, 0, none⟩, V.tn, some ⟨g3, 0, none⟩, V.on, A.U⟩ ∧ (B ≤ g1 ∧ g1 < g2 ∧ g2 < g3 ∧ g3 < C) ∧ RecordR w g1 V.rn V.R ∧ RuR w g2 g3 g2 V.tn V.T A.U ∧ IntS w g3 (g3 + 1) (some ⟨g3, 0, none⟩) V.on V.O ∧ C ≤ w.heap.size
theorem StIn.next {w w' : World} {B C : Nat} {A : StA} {V : StV} (h : StIn w B C A V) (hb : Below w.heap.size w w') : StIn w' B C A V := by
  obtain ⟨g1, g2, g3, e, h1, h2, h3, h4, h5⟩ := h
  exact ⟨g1, g2, g3, e, h1, h2.next hb, h3.next hb, h4.below hb (by omega), Nat.le_trans h5 hb.size⟩
theorem StIn.trn {w w' : World} {B C B' C' : Nat} {A : StA} {V : StV} (h : StIn w B C A V) (ht : Trn B' C' w w') (ha : C ≤ B' ∨ C' ≤ B) : StIn w' B C A V := by
  obtain ⟨g1, g2, g3, e, h1, h2, h3, h4, h5⟩ := h
  exact ⟨g1, g2, g3, e, h1, h2.trn ht (by omega), h3.trn ht (by omega), Turned.ints (show Turned B' C' w w' from ht) h4 (by omega), Nat.le_trans h5 ht.2.2.2.1⟩
theorem StIn.at {w : World} {B C : Nat} {A : StA} {V : StV} (h : StIn w B C A V) : StAt w A V := by
  obtain ⟨g1, g2, g3, e, h1, h2, h3, h4, h5⟩ := h
  rw [e]
  exact ⟨h2.sl, h3.rus, h4.sl, Nat.le_refl _, Nat.le_refl _, Nat.le_refl _⟩
def StPost (V : StV) (w : World) (r : Ending) (w' : World) : Prop := ∃ A : StA, r = .returned (.agg #[.int .i64 V.ep, .slice A.ra V.rn A.rc, .slice A.ta V.tn A.tc, .slice A.oa V.on A.oc]) ∧ StIn w' w.heap.size w'.heap.size A V ∧ Below w.heap.size w w'

set_option maxHeartbeats 2000000 in
theorem toStore_any (A : StA) (V : StV) (w : World) (hz : StOk V) (hs : StAt w A V) :
    Calls Tryz.prog 8 #[.agg #[.int .i64 V.ep, .slice A.ra V.rn A.rc, .slice A.ta V.tn A.tc, .slice A.oa V.on A.oc]] w (StPost V w) := by
  have HS : Hid (StAt w A V ∧ StOk V) := ⟨hs, hz⟩
  clear hs hz
  obtain ⟨W, hW⟩ : ∃ W, W = ((w.alloc (.cells #[.int .i64 V.ep, .slice A.ra V.rn A.rc, .slice A.ta V.tn A.tc, .slice A.oa V.on A.oc] 26)).alloc (.cells #[.int .i64 0, .slice none 0 0, .slice none 0 0, .slice none 0 0] 34)).alloc (.cells #[.int .i64 V.ep, .slice none 0 0, .slice none 0 0, .slice none 0 0] 34) := ⟨_, rfl⟩
  obtain ⟨t, ht⟩ : ∃ t, t = w.heap.size := ⟨_, rfl⟩
  have hWs : W.heap.size = t + 1 + 1 + 1 := by rw [hW, ht]; simp
  have H0 : Hid (Bx W t [.int .i64 V.ep, .slice A.ra V.rn A.rc, .slice A.ta V.tn A.tc, .slice A.oa V.on A.oc] ∧ Bx W (t + 1) [.int .i64 0, .slice none 0 0, .slice none 0 0, .slice none 0 0] ∧ Bx W (t + 1 + 1) [.int .i64 V.ep, .slice none 0 0, .slice none 0 0, .slice none 0 0] ∧ Below w.heap.size w W) := by
    have b0 := ((Bx.new w [.int .i64 V.ep, .slice A.ra V.rn A.rc, .slice A.ta V.tn A.tc, .slice A.oa V.on A.oc] 26).alloc (.cells #[.int .i64 0, .slice none 0 0, .slice none 0 0, .slice none 0 0] 34)).alloc (.cells #[.int .i64 V.ep, .slice none 0 0, .slice none 0 0, .slice none 0 0] 34)
    have b1 := (Bx.new (w.alloc (.cells #[.int .i64 V.ep, .slice A.ra V.rn A.rc, .slice A.ta V.tn A.tc, .slice A.oa V.on A.oc] 26)) [.int .i64 0, .slice none 0 0, .slice none 0 0, .slice none 0 0] 34).alloc (.cells #[.int .i64 V.ep, .slice none 0 0, .slice none 0 0, .slice none 0 0] 34)
    have b2 := Bx.new ((w.alloc (.cells #[.int .i64 V.ep, .slice A.ra V.rn A.rc, .slice A.ta V.tn A.tc, .slice A.oa V.on A.oc] 26)).alloc (.cells #[.int .i64 0, .slice none 0 0, .slice none 0 0, .slice none 0 0] 34)) [.int .i64 V.ep, .slice none 0 0, .slice none 0 0, .slice none 0 0] 34
    rw [World.size_alloc] at b1
    rw [World.size_alloc, World.size_alloc] at b2
    rw [hW, ht]
    exact ⟨b0, b1, b2, (((Below.refl _ _).alloc (Nat.le_refl _) _).alloc (by simp) _).alloc (by simp; omega) _⟩
  go_enter Tryz.func8, Tryz.ntmps8
  go_wp2_with fail
  rw [← hW, ← ht]
  clear hW
  have htw : w.heap.size = t := ht.symm
  clear ht
  refine (toRecordS_any _ _ _ V.R _ HS.out.2.1 (kept' HS.out.1.1 H0.out.2.2.2)).mono ?_
  rintro _ w1 ⟨rfl, hR1, hg1, hb1⟩
  rw [hWs] at hR1 hg1
  rw [hWs]
  have H1 : Hid (Bx w1 t [.int .i64 V.ep, .slice A.ra V.rn A.rc, .slice A.ta V.tn A.tc, .slice A.oa V.on A.oc] ∧ Bx w1 (t + 1) [.int .i64 0, .slice none 0 0, .slice none 0 0, .slice none 0 0] ∧ Bx w1 (t + 1 + 1) [.int .i64 V.ep, .slice none 0 0, .slice none 0 0, .slice none 0 0] ∧ RecordR w1 (t + 1 + 1 + 1) V.rn V.R ∧ Below w.heap.size w w1) := ⟨H0.out.1.next hb1, H0.out.2.1.next hb1, H0.out.2.2.1.next hb1, hR1, below_next' H0.out.2.2.2 hb1⟩
  clear hR1 hb1 H0 hWs
  obtain ⟨w1', hw1'⟩ : ∃ z, z = w1.setCell ⟨t + 1 + 1, 1, none⟩ (.slice (some ⟨t + 1 + 1 + 1, 0, none⟩) V.rn V.rn) := ⟨_, rfl⟩
  have H1' : Hid (Bx w1' t [.int .i64 V.ep, .slice A.ra V.rn A.rc, .slice A.ta V.tn A.tc, .slice A.oa V.on A.oc] ∧ Bx w1' (t + 1) [.int .i64 0, .slice none 0 0, .slice none 0 0, .slice none 0 0] ∧ Bx w1' (t + 1 + 1) [.int .i64 V.ep, .slice (some ⟨t + 1 + 1 + 1, 0, none⟩) V.rn V.rn, .slice none 0 0, .slice none 0 0] ∧ RecordR w1' (t + 1 + 1 + 1) V.rn V.R ∧ Below w.heap.size w w1') := by
    rw [hw1']
    exact ⟨H1.out.1.other (by omega), H1.out.2.1.other (by omega), H1.out.2.2.1.set (k := 1) (by simp) _, H1.out.2.2.2.1.set (by omega), H1.out.2.2.2.2.setCell (p := ⟨t + 1 + 1, 1, none⟩) (by show w.heap.size ≤ t + 1 + 1; omega) _⟩
  have o2 := H1.out.2.2.1.cell 1 rfl
  have f2 := H1.out.2.2.1.frz 1 (by simp)
  have l2 := H1.out.2.2.1.2
  have c3 : (w1.setCell ⟨t + 1 + 1, 1, none⟩ (.slice (some ⟨t + 1 + 1 + 1, 0, none⟩) V.rn V.rn)).cell? ⟨t, 2, none⟩ = some (.slice A.ta V.tn A.tc) := by rw [← hw1']; exact H1'.out.1.cell 2 rfl
  have l0 := H1.out.1.2
  clear H1
  go_wp2_with fail
  rw [← hw1']
  clear hw1' o2 f2 l2 c3 l0
  refine (toRunningS_any _ _ _ V.T A.U _ HS.out.2.2.1.1 HS.out.2.2.1.2 (HS.out.1.next H1'.out.2.2.2.2).2.1).mono ?_
  rintro _ w2 ⟨U, rfl, hR2, hb2⟩
  obtain ⟨g2, hg2'⟩ : ∃ g2, g2 = w1'.heap.size := ⟨_, rfl⟩
  rw [← hg2'] at hR2
  rw [← hg2']
  have hg2l : t + 1 + 1 + 1 < g2 := by have := H1'.out.2.2.2.1.2.2; omega
  have hg2w : g2 < w2.heap.size := hR2.1.2.2.2
  have H2 : Hid (Bx w2 t [.int .i64 V.ep, .slice A.ra V.rn A.rc, .slice A.ta V.tn A.tc, .slice A.oa V.on A.oc] ∧ Bx w2 (t + 1) [.int .i64 0, .slice none 0 0, .slice none 0 0, .slice none 0 0] ∧ Bx w2 (t + 1 + 1) [.int .i64 V.ep, .slice (some ⟨t + 1 + 1 + 1, 0, none⟩) V.rn V.rn, .slice none 0 0, .slice none 0 0] ∧ RecordR w2 (t + 1 + 1 + 1) V.rn V.R ∧ RuR w2 g2 w2.heap.size g2 V.tn V.T U ∧ Below w.heap.size w w2) := ⟨H1'.out.1.next hb2, H1'.out.2.1.next hb2, H1'.out.2.2.1.next hb2, H1'.out.2.2.2.1.next hb2, hR2, below_next' H1'.out.2.2.2.2 hb2⟩
  clear hR2 hb2 H1' hg2'
  obtain ⟨w2', hw2'⟩ : ∃ z, z = w2.setCell ⟨t + 1 + 1, 2, none⟩ (.slice (some ⟨g2, 0, none⟩) V.tn V.tn) := ⟨_, rfl⟩
  obtain ⟨g3, hg3⟩ : ∃ g3, g3 = w2.heap.size := ⟨_, rfl⟩
  have hz2 : w2'.heap.size = g3 := by rw [hw2', hg3]; simp
  rw [← hg3] at hg2w
  have H2' : Hid (Bx w2' t [.int .i64 V.ep, .slice A.ra V.rn A.rc, .slice A.ta V.tn A.tc, .slice A.oa V.on A.oc] ∧ Bx w2' (t + 1) [.int .i64 0, .slice none 0 0, .slice none 0 0, .slice none 0 0] ∧ Bx w2' (t + 1 + 1) [.int .i64 V.ep, .slice (some ⟨t + 1 + 1 + 1, 0, none⟩) V.rn V.rn, .slice (some ⟨g2, 0, none⟩) V.tn V.tn, .slice none 0 0] ∧ RecordR w2' (t + 1 + 1 + 1) V.rn V.R ∧ RuR w2' g2 g3 g2 V.tn V.T U ∧ Below w.heap.size w w2') := by
    rw [hw2', hg3]
    exact ⟨H2.out.1.other (by omega), H2.out.2.1.other (by omega), H2.out.2.2.1.set (k := 2) (by simp) _, H2.out.2.2.2.1.set (by omega), H2.out.2.2.2.2.1.set (by omega), H2.out.2.2.2.2.2.setCell (p := ⟨t + 1 + 1, 2, none⟩) (by show w.heap.size ≤ t + 1 + 1; omega) _⟩
  have o3 := H2.out.2.2.1.cell 2 rfl
  have f3 := H2.out.2.2.1.frz 2 (by simp)
  have l2 := H2.out.2.2.1.2
  have l0 := H2.out.1.2
  have c4 : (w2.setCell ⟨t + 1 + 1, 2, none⟩ (.slice (some ⟨g2, 0, none⟩) V.tn V.tn)).cell? ⟨t, 3, none⟩ = some (.slice A.oa V.on A.oc) := by rw [← hw2']; exact H2'.out.1.cell 3 rfl
  clear H2 hg3
  go_wp2_with fail
  rw [← hw2']
  clear hw2' o3 f3 l2 l0 c4
  refine (toIntS_any _ _ _ V.O _ HS.out.2.2.2 (kept' HS.out.1.2.2.1 H2'.out.2.2.2.2.2)).mono ?_
  rintro _ w3 ⟨rfl, hR3, hg3w, hb3⟩
  rw [hz2] at hR3 hg3w
  rw [hz2]
  have H3 : Hid (Bx w3 (t + 1) [.int .i64 0, .slice none 0 0, .slice none 0 0, .slice none 0 0] ∧ Bx w3 (t + 1 + 1) [.int .i64 V.ep, .slice (some ⟨t + 1 + 1 + 1, 0, none⟩) V.rn V.rn, .slice (some ⟨g2, 0, none⟩) V.tn V.tn, .slice none 0 0] ∧ RecordR w3 (t + 1 + 1 + 1) V.rn V.R ∧ RuR w3 g2 g3 g2 V.tn V.T U ∧ IntS w3 g3 (g3 + 1) (some ⟨g3, 0, none⟩) V.on V.O ∧ Below w.heap.size w w3) := ⟨H2'.out.2.1.next hb3, H2'.out.2.2.1.next hb3, H2'.out.2.2.2.1.next hb3, H2'.out.2.2.2.2.1.next hb3, hR3, below_next' H2'.out.2.2.2.2.2 hb3⟩
  clear hb3 H2' HS hR3 hz2
  have p0 := H3.out.1.cell 0 rfl
  have q0 := H3.out.1.frz 0 (by simp)
  have o0 := H3.out.2.1.cell 0 rfl
  have f0 := H3.out.2.1.frz 0 (by simp)
  have p1 := H3.out.1.cell 1 rfl
  have q1 := H3.out.1.frz 1 (by simp)
  have o1 := H3.out.2.1.cell 1 rfl
  have f1 := H3.out.2.1.frz 1 (by simp)
  have p2 := H3.out.1.cell 2 rfl
  have q2 := H3.out.1.frz 2 (by simp)
  have o2 := H3.out.2.1.cell 2 rfl
  have f2 := H3.out.2.1.frz 2 (by simp)
  have p3 := H3.out.1.cell 3 rfl
  have q3 := H3.out.1.frz 3 (by simp)
  have o3 := H3.out.2.1.cell 3 rfl
  have f3 := H3.out.2.1.frz 3 (by simp)
  have l1 := H3.out.1.2
  have l2 := H3.out.2.1.2
  have HF : Hid (RecordR w3 (t + 1 + 1 + 1) V.rn V.R ∧ RuR w3 g2 g3 g2 V.tn V.T U ∧ IntS w3 g3 (g3 + 1) (some ⟨g3, 0, none⟩) V.on V.O ∧ Below w.heap.size w w3) := H3.out.2.2
  clear H3
  go_wp2
  refine bodyPost_ret (v := .agg #[.int .i64 V.ep, .slice (some ⟨t + 1 + 1 + 1, 0, none⟩) V.rn V.rn, .slice (some ⟨g2, 0, none⟩) V.tn V.tn, .slice (some ⟨g3, 0, none⟩) V.on V.on]) (by simp [results, Tryz.results8, go_sem, *]) rfl ⟨⟨some ⟨t + 1 + 1 + 1, 0, none⟩, V.rn, some ⟨g2, 0, none⟩, V.tn, some ⟨g3, 0, none⟩, V.on, U⟩, rfl, ⟨t + 1 + 1 + 1, g2, g3, rfl, ⟨by omega, hg2l, hg2w, by simpa using hg3w⟩, ?_, ?_, ?_, Nat.le_refl _⟩, ?_⟩
  · repeat (refine RecordR.set ?_ (by omega))
    exact HF.out.1
  · repeat (refine RuR.set ?_ (by omega))
    exact HF.out.2.1
  · repeat (refine IntS.setO ?_ (by omega))
    exact HF.out.2.2.1
  · repeat (refine Below.setCell ?_ (by dsimp only; omega) _)
    exact HF.out.2.2.2
end Go.Proofs.YtenfaofhoheleaaGreat
