/- Lists of Running: the law's own functions toRunning, toRunningS. Written by tools/mkRuT.py. -/
import Derived.Test.YtenfaofhoheleaaGreatRu
namespace Go.Proofs.YtenfaofhoheleaaGreat
open Go.RowKit
set_option linter.unusedVariables false

theorem LookR.set {w : World} {g g' q n : Nat} {v : Value} {V : Nat → LookV} (h : LookR w g n V) (hg : g ≠ g') : LookR (w.setCell ⟨g', q, none⟩ v) g n V := by
  have e : (w.setCell ⟨g', q, none⟩ v).heap[g]? = w.heap[g]? := Below.heap_setCell _ _ _ _ (fun e => hg e)
  exact ⟨h.1.same e, h.2.1.same e, by simpa using h.2.2⟩
theorem LookR.trn {w w' : World} {B C g n : Nat} {V : Nat → LookV} (h : LookR w g n V) (ht : Trn B C w w') (ha : g < B ∨ C ≤ g) : LookR w' g n V :=
  ⟨h.1.same (ht.2.2.2.2 g h.2.2 ha), h.2.1.same (ht.2.2.2.2 g h.2.2 ha), Nat.lt_of_lt_of_le h.2.2 ht.2.2.2.1⟩
theorem CellR.set {w : World} {g g' q n : Nat} {v : Value} {V : Nat → CellV} (h : CellR w g n V) (hg : g ≠ g') : CellR (w.setCell ⟨g', q, none⟩ v) g n V := by
  have e : (w.setCell ⟨g', q, none⟩ v).heap[g]? = w.heap[g]? := Below.heap_setCell _ _ _ _ (fun e => hg e)
  exact ⟨h.1.same e, h.2.1.same e, by simpa using h.2.2⟩
theorem CellR.trn {w w' : World} {B C g n : Nat} {V : Nat → CellV} (h : CellR w g n V) (ht : Trn B C w w') (ha : g < B ∨ C ≤ g) : CellR w' g n V :=
  ⟨h.1.same (ht.2.2.2.2 g h.2.2 ha), h.2.1.same (ht.2.2.2.2 g h.2.2 ha), Nat.lt_of_lt_of_le h.2.2 ht.2.2.2.1⟩
def RunPost (id st e s : Int) (b : Bool) (ln cn : Nat) (lk : Nat → LookV) (cl : Nat → CellV) (w : World) (r : Ending) (w' : World) : Prop :=
  ∃ g1 g2 : Nat, r = .returned (.agg #[.int .i64 id, .int .i64 st, .slice (some ⟨g1, 0, none⟩) ln ln, .slice (some ⟨g2, 0, none⟩) cn cn, .int .i64 e, .int .i64 s, .bool b]) ∧ LookR w' g1 ln lk ∧ CellR w' g2 cn cl ∧ (w.heap.size ≤ g1 ∧ g1 < g2) ∧ Below w.heap.size w w'

set_option maxHeartbeats 2000000 in
theorem toRunning_any (id st e s : Int) (b : Bool) (la ca : Option Addr) (ln lc cn cc : Nat) (lk : Nat → LookV) (cl : Nat → CellV) (w : World) (h1 : ln ≤ 1048576) (h2 : cn ≤ 1048576) (hs : Sl w la ln 5 (lookF lk)) (hs' : Sl w ca cn 2 (cellF cl)) :
    Calls Tryz.prog 58 #[.agg #[.int .i64 id, .int .i64 st, .slice la ln lc, .slice ca cn cc, .int .i64 e, .int .i64 s, .bool b]] w (RunPost id st e s b ln cn lk cl w) := by
  have HS : Hid (Sl w la ln 5 (lookF lk) ∧ Sl w ca cn 2 (cellF cl)) := ⟨hs, hs'⟩
  clear hs hs'
  obtain ⟨W, hW⟩ : ∃ W, W = ((w.alloc (.cells #[.int .i64 id, .int .i64 st, .slice la ln lc, .slice ca cn cc, .int .i64 e, .int .i64 s, .bool b] 83)).alloc (.cells #[.int .i64 0, .int .i64 0, .slice none 0 0, .slice none 0 0, .int .i64 0, .int .i64 0, .bool false] 71)).alloc (.cells #[.int .i64 id, .int .i64 st, .slice none 0 0, .slice none 0 0, .int .i64 0, .int .i64 0, .bool false] 71) := ⟨_, rfl⟩
  obtain ⟨t, ht⟩ : ∃ t, t = w.heap.size := ⟨_, rfl⟩
  have hWs : W.heap.size = t + 1 + 1 + 1 := by rw [hW, ht]; simp
  have H0 : Hid (Bx W t [.int .i64 id, .int .i64 st, .slice la ln lc, .slice ca cn cc, .int .i64 e, .int .i64 s, .bool b] ∧ Bx W (t + 1) [.int .i64 0, .int .i64 0, .slice none 0 0, .slice none 0 0, .int .i64 0, .int .i64 0, .bool false] ∧ Bx W (t + 1 + 1) [.int .i64 id, .int .i64 st, .slice none 0 0, .slice none 0 0, .int .i64 0, .int .i64 0, .bool false] ∧ Below w.heap.size w W) := by
    have b0 := ((Bx.new w [.int .i64 id, .int .i64 st, .slice la ln lc, .slice ca cn cc, .int .i64 e, .int .i64 s, .bool b] 83).alloc (.cells #[.int .i64 0, .int .i64 0, .slice none 0 0, .slice none 0 0, .int .i64 0, .int .i64 0, .bool false] 71)).alloc (.cells #[.int .i64 id, .int .i64 st, .slice none 0 0, .slice none 0 0, .int .i64 0, .int .i64 0, .bool false] 71)
    have b1 := (Bx.new (w.alloc (.cells #[.int .i64 id, .int .i64 st, .slice la ln lc, .slice ca cn cc, .int .i64 e, .int .i64 s, .bool b] 83)) [.int .i64 0, .int .i64 0, .slice none 0 0, .slice none 0 0, .int .i64 0, .int .i64 0, .bool false] 71).alloc (.cells #[.int .i64 id, .int .i64 st, .slice none 0 0, .slice none 0 0, .int .i64 0, .int .i64 0, .bool false] 71)
    have b2 := Bx.new ((w.alloc (.cells #[.int .i64 id, .int .i64 st, .slice la ln lc, .slice ca cn cc, .int .i64 e, .int .i64 s, .bool b] 83)).alloc (.cells #[.int .i64 0, .int .i64 0, .slice none 0 0, .slice none 0 0, .int .i64 0, .int .i64 0, .bool false] 71)) [.int .i64 id, .int .i64 st, .slice none 0 0, .slice none 0 0, .int .i64 0, .int .i64 0, .bool false] 71
    rw [World.size_alloc] at b1
    rw [World.size_alloc, World.size_alloc] at b2
    rw [hW, ht]
    exact ⟨b0, b1, b2, (((Below.refl _ _).alloc (Nat.le_refl _) _).alloc (by simp) _).alloc (by simp; omega) _⟩
  go_enter Tryz.func58, Tryz.ntmps58
  go_wp2_with fail
  rw [← hW, ← ht]
  clear hW
  have htw : w.heap.size = t := ht.symm
  clear ht
  refine (toLookS_any _ _ _ lk _ h1 (kept' HS.out.1 H0.out.2.2.2)).mono ?_
  rintro _ w1 ⟨rfl, hR1, hg1, hb1⟩
  rw [hWs] at hR1 hg1
  rw [hWs]
  have H1 : Hid (Bx w1 t [.int .i64 id, .int .i64 st, .slice la ln lc, .slice ca cn cc, .int .i64 e, .int .i64 s, .bool b] ∧ Bx w1 (t + 1) [.int .i64 0, .int .i64 0, .slice none 0 0, .slice none 0 0, .int .i64 0, .int .i64 0, .bool false] ∧ Bx w1 (t + 1 + 1) [.int .i64 id, .int .i64 st, .slice none 0 0, .slice none 0 0, .int .i64 0, .int .i64 0, .bool false] ∧ LookR w1 (t + 1 + 1 + 1) ln lk ∧ Below w.heap.size w w1) := ⟨H0.out.1.next hb1, H0.out.2.1.next hb1, H0.out.2.2.1.next hb1, hR1, below_next' H0.out.2.2.2 hb1⟩
  clear hR1 hb1 H0 hWs
  obtain ⟨w1', hw1'⟩ : ∃ z, z = w1.setCell ⟨t + 1 + 1, 2, none⟩ (.slice (some ⟨t + 1 + 1 + 1, 0, none⟩) ln ln) := ⟨_, rfl⟩
  have hz1' : w1'.heap.size = w1.heap.size := by rw [hw1']; simp
  have H1' : Hid (Bx w1' t [.int .i64 id, .int .i64 st, .slice la ln lc, .slice ca cn cc, .int .i64 e, .int .i64 s, .bool b] ∧ Bx w1' (t + 1) [.int .i64 0, .int .i64 0, .slice none 0 0, .slice none 0 0, .int .i64 0, .int .i64 0, .bool false] ∧ Bx w1' (t + 1 + 1) [.int .i64 id, .int .i64 st, .slice (some ⟨t + 1 + 1 + 1, 0, none⟩) ln ln, .slice none 0 0, .int .i64 0, .int .i64 0, .bool false] ∧ LookR w1' (t + 1 + 1 + 1) ln lk ∧ Below w.heap.size w w1') := by
    rw [hw1']
    exact ⟨H1.out.1.other (by omega), H1.out.2.1.other (by omega), H1.out.2.2.1.set (k := 2) (by simp) _, H1.out.2.2.2.1.set (by omega), H1.out.2.2.2.2.setCell (p := ⟨t + 1 + 1, 2, none⟩) (by show w.heap.size ≤ t + 1 + 1; omega) _⟩
  have o2 := H1.out.2.2.1.cell 2 rfl
  have f2 := H1.out.2.2.1.frz 2 (by simp)
  have l2 := H1.out.2.2.1.2
  have c3 : (w1.setCell ⟨t + 1 + 1, 2, none⟩ (.slice (some ⟨t + 1 + 1 + 1, 0, none⟩) ln ln)).cell? ⟨t, 3, none⟩ = some (.slice ca cn cc) := by rw [← hw1']; exact H1'.out.1.cell 3 rfl
  have l0 := H1.out.1.2
  clear H1
  go_wp2_with fail
  rw [← hw1']
  clear hw1' o2 f2 l2 c3 l0
  refine (toCellS_any _ _ _ cl _ h2 (kept' HS.out.2 H1'.out.2.2.2.2)).mono ?_
  rintro _ w2 ⟨rfl, hR2, hg2, hb2⟩
  obtain ⟨g2, hg2'⟩ : ∃ g2, g2 = w1'.heap.size := ⟨_, rfl⟩
  rw [← hg2'] at hR2 hg2
  rw [← hg2']
  have hg2l : t + 1 + 1 + 1 < g2 := by have := H1'.out.2.2.2.1.2.2; omega
  have H2 : Hid (Bx w2 t [.int .i64 id, .int .i64 st, .slice la ln lc, .slice ca cn cc, .int .i64 e, .int .i64 s, .bool b] ∧ Bx w2 (t + 1) [.int .i64 0, .int .i64 0, .slice none 0 0, .slice none 0 0, .int .i64 0, .int .i64 0, .bool false] ∧ Bx w2 (t + 1 + 1) [.int .i64 id, .int .i64 st, .slice (some ⟨t + 1 + 1 + 1, 0, none⟩) ln ln, .slice none 0 0, .int .i64 0, .int .i64 0, .bool false] ∧ LookR w2 (t + 1 + 1 + 1) ln lk ∧ CellR w2 g2 cn cl ∧ Below w.heap.size w w2) := ⟨H1'.out.1.next hb2, H1'.out.2.1.next hb2, H1'.out.2.2.1.next hb2, H1'.out.2.2.2.1.next hb2, hR2, below_next' H1'.out.2.2.2.2 hb2⟩
  clear hR2 hb2 H1' hg2' hz1'
  obtain ⟨w2', hw2'⟩ : ∃ z, z = w2.setCell ⟨t + 1 + 1, 3, none⟩ (.slice (some ⟨g2, 0, none⟩) cn cn) := ⟨_, rfl⟩
  have H2' : Hid (Bx w2' t [.int .i64 id, .int .i64 st, .slice la ln lc, .slice ca cn cc, .int .i64 e, .int .i64 s, .bool b] ∧ Bx w2' (t + 1) [.int .i64 0, .int .i64 0, .slice none 0 0, .slice none 0 0, .int .i64 0, .int .i64 0, .bool false] ∧ Bx w2' (t + 1 + 1) [.int .i64 id, .int .i64 st, .slice (some ⟨t + 1 + 1 + 1, 0, none⟩) ln ln, .slice (some ⟨g2, 0, none⟩) cn cn, .int .i64 0, .int .i64 0, .bool false] ∧ LookR w2' (t + 1 + 1 + 1) ln lk ∧ CellR w2' g2 cn cl ∧ Below w.heap.size w w2') := by
    rw [hw2']
    exact ⟨H2.out.1.other (by omega), H2.out.2.1.other (by omega), H2.out.2.2.1.set (k := 3) (by simp) _, H2.out.2.2.2.1.set (by omega), H2.out.2.2.2.2.1.set (by omega), H2.out.2.2.2.2.2.setCell (p := ⟨t + 1 + 1, 3, none⟩) (by show w.heap.size ≤ t + 1 + 1; omega) _⟩
  have o3 := H2.out.2.2.1.cell 3 rfl
  have f3 := H2.out.2.2.1.frz 3 (by simp)
  have l2 := H2.out.2.2.1.2
  have l0 := H2.out.1.2
  have c4 : (w2.setCell ⟨t + 1 + 1, 3, none⟩ (.slice (some ⟨g2, 0, none⟩) cn cn)).cell? ⟨t, 4, none⟩ = some (.int .i64 e) := by rw [← hw2']; exact H2'.out.1.cell 4 rfl
  have c5 : (w2.setCell ⟨t + 1 + 1, 3, none⟩ (.slice (some ⟨g2, 0, none⟩) cn cn)).cell? ⟨t, 5, none⟩ = some (.int .i64 s) := by rw [← hw2']; exact H2'.out.1.cell 5 rfl
  have c6 : (w2.setCell ⟨t + 1 + 1, 3, none⟩ (.slice (some ⟨g2, 0, none⟩) cn cn)).cell? ⟨t, 6, none⟩ = some (.bool b) := by rw [← hw2']; exact H2'.out.1.cell 6 rfl
  clear H2
  go_wp2_with fail
  rw [← hw2']
  clear hw2' o3 f3 l2 l0 c4 c5 c6
  refine (toTid_any _ _ _ _).mono ?_
  rintro _ w3 ⟨rfl, hb3⟩
  have H3 : Hid (Bx w3 (t + 1) [.int .i64 0, .int .i64 0, .slice none 0 0, .slice none 0 0, .int .i64 0, .int .i64 0, .bool false] ∧ Bx w3 (t + 1 + 1) [.int .i64 id, .int .i64 st, .slice (some ⟨t + 1 + 1 + 1, 0, none⟩) ln ln, .slice (some ⟨g2, 0, none⟩) cn cn, .int .i64 0, .int .i64 0, .bool false] ∧ LookR w3 (t + 1 + 1 + 1) ln lk ∧ CellR w3 g2 cn cl ∧ Below w.heap.size w w3) := ⟨H2'.out.2.1.next hb3, H2'.out.2.2.1.next hb3, H2'.out.2.2.2.1.next hb3, H2'.out.2.2.2.2.1.next hb3, below_next' H2'.out.2.2.2.2.2 hb3⟩
  clear hb3 H2' HS
  have p0 := H3.out.1.cell 0 rfl
  have q0 := H3.out.1.frz 0 (by simp)
  have o0 := H3.out.2.1.cell 0 rfl
  have f0 := H3.out.2.1.frz 0 (by simp)
  have p1 := H3.out.1.cell 1 rfl
  have q1 := H3.out.1.frz 1 (by simp)
  have o1 := H3.out.2.1.cell 1 rfl
  have f1 := H3.out.2.1.frz 1 (by simp)
  have p2 := H3.out.1.cell 2 rfl
  have q2 := H3.out.1.frz 2 (by simp)
  have o2 := H3.out.2.1.cell 2 rfl
  have f2 := H3.out.2.1.frz 2 (by simp)
  have p3 := H3.out.1.cell 3 rfl
  have q3 := H3.out.1.frz 3 (by simp)
  have o3 := H3.out.2.1.cell 3 rfl
  have f3 := H3.out.2.1.frz 3 (by simp)
  have p4 := H3.out.1.cell 4 rfl
  have q4 := H3.out.1.frz 4 (by simp)
  have o4 := H3.out.2.1.cell 4 rfl
  have f4 := H3.out.2.1.frz 4 (by simp)
  have p5 := H3.out.1.cell 5 rfl
  have q5 := H3.out.1.frz 5 (by simp)
  have o5 := H3.out.2.1.cell 5 rfl
  have f5 := H3.out.2.1.frz 5 (by simp)
  have p6 := H3.out.1.cell 6 rfl
  have q6 := H3.out.1.frz 6 (by simp)
  have o6 := H3.out.2.1.cell 6 rfl
  have f6 := H3.out.2.1.frz 6 (by simp)
  have l1 := H3.out.1.2
  have l2 := H3.out.2.1.2
  have HF : Hid (LookR w3 (t + 1 + 1 + 1) ln lk ∧ CellR w3 g2 cn cl ∧ Below w.heap.size w w3) := H3.out.2.2
  clear H3
  go_wp2
  refine bodyPost_ret (v := .agg #[.int .i64 id, .int .i64 st, .slice (some ⟨t + 1 + 1 + 1, 0, none⟩) ln ln, .slice (some ⟨g2, 0, none⟩) cn cn, .int .i64 e, .int .i64 s, .bool b]) (by simp [results, Tryz.results58, go_sem, *]) rfl ⟨t + 1 + 1 + 1, g2, rfl, ?_, ?_, ⟨by omega, hg2l⟩, ?_⟩
  · repeat (refine LookR.set ?_ (by omega))
    exact HF.out.1
  · repeat (refine CellR.set ?_ (by omega))
    exact HF.out.2.1
  · repeat (refine Below.setCell ?_ (by dsimp only; omega) _)
    exact HF.out.2.2
end Go.Proofs.YtenfaofhoheleaaGreat
