/- The contracts of MergeClock and of the specification's own. -/
import Derived.Test.YtjophhiccbkpjaaMrg
namespace Go.Proofs.Ytjophhiccbkpjaa
open Go.RowKit
set_option linter.unusedVariables false

def mgN (X : Nat → Int) (n : Nat) (Y : Nat → Int) (m : Nat) : Nat := if ccOk X n Y m then 6 else 0
def mgV (X Y : Nat → Int) (i : Nat) : Int := max (X i) (Y i)
def MergePost (X : Nat → Int) (n : Nat) (Y : Nat → Int) (m : Nat) (w : World) (r : Ending) (w' : World) : Prop :=
  (∃ a cap, r = .returned (.tuple #[.agg #[.slice a (mgN X n Y m) cap], .bool (ccOk X n Y m)]) ∧ IntS w' w.heap.size w'.heap.size a (mgN X n Y m) (mgV X Y)) ∧ Below w.heap.size w w'
theorem merge_no {X : Nat → Int} {n : Nat} {Y : Nat → Int} {m : Nat} {w w' : World} (h : ccOk X n Y m = false) (hb : Below w.heap.size w w') : MergePost X n Y m w (.returned (.tuple #[.agg #[.slice none 0 0], .bool false])) w' :=
  ⟨⟨none, 0, by simp [mgN, h], Or.inl (by simp [mgN, h])⟩, hb⟩
theorem merge_yes {X : Nat → Int} {n : Nat} {Y : Nat → Int} {m : Nat} {w w' : World} {a : Option Addr} {cap : Nat} {Z : Nat → Int} (h : ccOk X n Y m = true) (hx : IntS w' w.heap.size w'.heap.size a 6 Z) (hz : ∀ i, i < 6 → Z i = max (X i) (Y i)) (hb : Below w.heap.size w w') : MergePost X n Y m w (.returned (.tuple #[.agg #[.slice a 6 cap], .bool true])) w' :=
  ⟨⟨a, cap, by simp [mgN, h], by simpa [mgN, h] using hx.congr (Y := mgV X Y) hz⟩, hb⟩
/-- A store into one block of the call's own. -/
theorem ints_set {w : World} {B C g : Nat} {a : Option Addr} {n : Nat} {X : Nat → Int} {v : Value} (h : IntS w B C a n X) (hg : g < B) : IntS (w.setCell ⟨g, 0, none⟩ v) B C a n X :=
  (((Turned.refl g (g + 1) w).set (p := ⟨g, 0, none⟩) (Nat.le_refl _) (Nat.lt_succ_self _) v)).ints h (Or.inr hg)

set_option maxHeartbeats 1000000 in
theorem mergeClock_any (a : Option Addr) (n cap : Nat) (X : Nat → Int) (a' : Option Addr) (n' cap' : Nat) (Y : Nat → Int) (w : World) (hn : n ≤ 1048576) (hn' : n' ≤ 1048576) (hs : Sl w a n 1 (intF X)) (hs' : Sl w a' n' 1 (intF Y)) :
    Calls Try.prog 25 #[.agg #[.slice a n cap], .agg #[.slice a' n' cap']] w fun r w' => MergePost X n Y n' w r w' := by
  have HS : Hid (Sl w a n 1 (intF X) ∧ Sl w a' n' 1 (intF Y)) := ⟨hs, hs'⟩
  clear hs hs'
  go_enter Try.func25, Try.ntmps25
  go_wp2_with fail
  have hba : Below w.heap.size w (((w.alloc (.cells #[.slice a n cap] 36)).alloc (.cells #[.slice a' n' cap'] 36)).alloc (.cells #[.slice none 0 0] 36)) := (((Below.refl _ _).alloc (Nat.le_refl _) _).alloc (by simp) _).alloc (by simp; omega) _
  refine (vectorFrom_any _ _ _ X _ _ hn (HS.out.1.below hba (Nat.le_refl _))).mono ?_
  rintro r w1 ⟨rfl, hb1⟩
  have HP : Hid (∀ i, i < 6 → vfOk X n 1000000 = true → vfV X n 1000000 i = X i) := fun i _ h => by simp [vfV, h]
  have HJ : Hid (ccOk X n Y n' = (vfOk X n 1000000 && vfOk Y n' 1000000)) := rfl
  generalize vfV X n 1000000 = U at *
  generalize vfOk X n 1000000 = p at *
  have HB1 : Hid (Below w.heap.size w w1) := hba.trans (hb1.mono (by simp; omega))
  have q1 : w1.cell? ⟨w.heap.size + 1, 0, none⟩ = some (.slice a' n' cap') := by rw [hb1.cell (p := ⟨w.heap.size + 1, 0, none⟩) (by simp)]; simp [go_sem]
  have q2 : w1.cell? ⟨w.heap.size + 1 + 1, 0, none⟩ = some (.slice none 0 0) := by rw [hb1.cell (p := ⟨w.heap.size + 1 + 1, 0, none⟩) (by simp)]; simp [go_sem]
  have f2 : w1.frozen? ⟨w.heap.size + 1 + 1, 0, none⟩ = false := by rw [hb1.frozen (p := ⟨w.heap.size + 1 + 1, 0, none⟩) (by simp)]; simp [go_sem]
  have z1 : w.heap.size + 1 + 1 < w1.heap.size := by have := hb1.size; simp at this; omega
  have z0 : w.heap.size + 1 < w1.heap.size := by omega
  clear hb1 hba
  unfold vec
  go_wp2_with fail
  have hba : Below w.heap.size w (w1.alloc (.cells #[.int .i64 (U 0), .int .i64 (U 1), .int .i64 (U 2), .int .i64 (U 3), .int .i64 (U 4), .int .i64 (U 5)] 73)) := HB1.out.alloc HB1.out.size _
  have haa : Below w1.heap.size w1 (w1.alloc (.cells #[.int .i64 (U 0), .int .i64 (U 1), .int .i64 (U 2), .int .i64 (U 3), .int .i64 (U 4), .int .i64 (U 5)] 73)) := Go.Joins.below_alloc1 _ _
  refine (vectorFrom_any _ _ _ Y _ _ hn' (HS.out.2.below hba (Nat.le_refl _))).mono ?_
  rintro r w2 ⟨rfl, hb2⟩
  have HV1 : Hid (Vec w2 w1.heap.size U) := (Vec.new w1 U 73).below hb2 (by simp)
  have HB2 : Hid (Below w.heap.size w w2) := hba.trans (hb2.mono (by have := HB1.out.size; simp; omega))
  have hb12 : Below w1.heap.size w1 w2 := haa.trans (hb2.mono (by simp))
  have hz2 : w1.heap.size < w2.heap.size := by have := hb2.size; simp at this; omega
  have hz1 : w.heap.size ≤ w1.heap.size := HB1.out.size
  have r2 : w2.cell? ⟨w.heap.size + 1 + 1, 0, none⟩ = some (.slice none 0 0) := (hb12.cell (p := ⟨w.heap.size + 1 + 1, 0, none⟩) z1).trans q2
  have e2 : w2.frozen? ⟨w.heap.size + 1 + 1, 0, none⟩ = false := (hb12.frozen (p := ⟨w.heap.size + 1 + 1, 0, none⟩) z1).trans f2
  have z2 : w.heap.size + 1 + 1 < w2.heap.size := by omega
  clear hba hb2 HB1 HS q1 q2 f2 haa hb12
  have HQ : Hid (∀ i, i < 6 → vfOk Y n' 1000000 = true → vfV Y n' 1000000 i = Y i) := fun i _ h => by simp [vfV, h]
  generalize vfV Y n' 1000000 = V at *
  generalize vfOk Y n' 1000000 = q at *
  unfold vec
  cases p
  · have HN : Hid (ccOk X n Y n' = false) := HJ.out
    clear HJ
    go_wp2
    have hb := HB2.out
    exact bodyPost_ret (v := .tuple #[.agg #[.slice none 0 0], .bool false]) (by simp [results, Try.results25, go_sem, r2, z2]) rfl (merge_no HN.out (by repeat (first | refine Below.setCell ?_ (by (try simp) <;> omega) _ | refine Below.alloc ?_ (by (try simp) <;> omega) _ | refine Below.drew ?_ | assumption | exact Below.refl _ _ | refine Below.trans ?_ (Below.mono (by assumption) (by (try simp) <;> omega)))))
  cases q
  · have HN : Hid (ccOk X n Y n' = false) := HJ.out
    clear HJ
    go_wp2
    have hb := HB2.out
    exact bodyPost_ret (v := .tuple #[.agg #[.slice none 0 0], .bool false]) (by simp [results, Try.results25, go_sem, r2, z2]) rfl (merge_no HN.out (by repeat (first | refine Below.setCell ?_ (by (try simp) <;> omega) _ | refine Below.alloc ?_ (by (try simp) <;> omega) _ | refine Below.drew ?_ | assumption | exact Below.refl _ _ | refine Below.trans ?_ (Below.mono (by assumption) (by (try simp) <;> omega)))))
  have HN : Hid (ccOk X n Y n' = true) := HJ.out
  obtain ⟨⟨c0, c1, c2, c3, c4, c5⟩, _⟩ := HV1.out.six
  have haa : Below w2.heap.size w2 (w2.alloc (.cells #[.int .i64 (V 0), .int .i64 (V 1), .int .i64 (V 2), .int .i64 (V 3), .int .i64 (V 4), .int .i64 (V 5)] 73)) := Go.Joins.below_alloc1 _ _
  have HB3 : Hid (Below w.heap.size w (w2.alloc (.cells #[.int .i64 (V 0), .int .i64 (V 1), .int .i64 (V 2), .int .i64 (V 3), .int .i64 (V 4), .int .i64 (V 5)] 73)) ∧ Below w2.heap.size w2 (w2.alloc (.cells #[.int .i64 (V 0), .int .i64 (V 1), .int .i64 (V 2), .int .i64 (V 3), .int .i64 (V 4), .int .i64 (V 5)] 73))) := ⟨HB2.out.alloc HB2.out.size _, haa⟩
  clear HJ HV1 HB2 haa
  go_wp2_with fail
  refine (greater_any U V _).mono ?_
  rintro r w3 ⟨rfl, hb3⟩
  have HB4 : Hid (Below w.heap.size w w3 ∧ Below w2.heap.size w2 w3) := ⟨HB3.out.1.trans (hb3.mono HB3.out.1.size), HB3.out.2.trans (hb3.mono HB3.out.2.size)⟩
  clear hb3 c0 c1 c2 c3 c4 c5 HB3
  go_wp2_with fail
  refine (listFrom_any _ _).mono ?_
  rintro r w4 ⟨⟨a4, cap4, rfl, hx⟩, hb4⟩
  have hb24 : Below w2.heap.size w2 w4 := HB4.out.2.trans (hb4.mono HB4.out.2.size)
  have z3 : w2.heap.size ≤ w3.heap.size := HB4.out.2.size
  have r4 : w4.cell? ⟨w.heap.size + 1 + 1, 0, none⟩ = some (.slice none 0 0) := (hb24.cell (p := ⟨w.heap.size + 1 + 1, 0, none⟩) z2).trans r2
  have e4 : w4.frozen? ⟨w.heap.size + 1 + 1, 0, none⟩ = false := (hb24.frozen (p := ⟨w.heap.size + 1 + 1, 0, none⟩) z2).trans e2
  have HF : Hid (IntS w4 w3.heap.size w4.heap.size a4 6 (fun i => max (U i) (V i)) ∧ Below w.heap.size w w4) := ⟨hx, HB4.out.1.trans (hb4.mono HB4.out.1.size)⟩
  clear hx hb4 hb24 r2 e2 HB4
  go_wp2
  have hb := HF.out.2
  refine bodyPost_ret (v := .tuple #[.agg #[.slice a4 6 cap4], .bool true]) (by simp [results, Try.results25, go_sem, r4]) rfl (merge_yes (Z := fun i => max (U i) (V i)) HN.out ?_ (fun i hi => by show max (U i) (V i) = _; rw [HP.out i hi (by simp), HQ.out i hi (by simp)]) (by repeat (first | refine Below.setCell ?_ (by (try simp) <;> omega) _ | refine Below.alloc ?_ (by (try simp) <;> omega) _ | refine Below.drew ?_ | assumption | exact Below.refl _ _ | refine Below.trans ?_ (Below.mono (by assumption) (by (try simp) <;> omega)))))
  have := (ints_set (v := .slice a4 6 cap4) HF.out.1 (g := w.heap.size + 1 + 1) (by omega)).wide (show w.heap.size ≤ _ by omega) (Nat.le_refl _)
  simpa using this

set_option maxHeartbeats 1000000 in
theorem specMergeClock_any (a : Option Addr) (n cap : Nat) (X : Nat → Int) (a' : Option Addr) (n' cap' : Nat) (Y : Nat → Int) (w : World) (hn : n ≤ 1048576) (hn' : n' ≤ 1048576) (hs : Sl w a n 1 (intF X)) (hs' : Sl w a' n' 1 (intF Y)) :
    Calls Try.prog 26 #[.agg #[.slice a n cap], .agg #[.slice a' n' cap']] w fun r w' => MergePost X n Y n' w r w' := by
  have HS : Hid (Sl w a n 1 (intF X) ∧ Sl w a' n' 1 (intF Y)) := ⟨hs, hs'⟩
  clear hs hs'
  go_enter Try.func26, Try.ntmps26
  go_wp2_with fail
  have hba : Below w.heap.size w (((w.alloc (.cells #[.slice a n cap] 36)).alloc (.cells #[.slice a' n' cap'] 36)).alloc (.cells #[.slice none 0 0] 36)) := (((Below.refl _ _).alloc (Nat.le_refl _) _).alloc (by simp) _).alloc (by simp; omega) _
  refine (l2Clock_any _ _ _ X _ hn (HS.out.1.below hba (Nat.le_refl _))).mono ?_
  rintro r w1 ⟨rfl, hb1⟩
  have HB1 : Hid (Below w.heap.size w w1) := hba.trans (hb1.mono (by simp; omega))
  have q0 : w1.cell? ⟨w.heap.size, 0, none⟩ = some (.slice a n cap) := by rw [hb1.cell (p := ⟨w.heap.size, 0, none⟩) (by simp; omega)]; simp [go_sem]
  have q1 : w1.cell? ⟨w.heap.size + 1, 0, none⟩ = some (.slice a' n' cap') := by rw [hb1.cell (p := ⟨w.heap.size + 1, 0, none⟩) (by simp)]; simp [go_sem]
  have q2 : w1.cell? ⟨w.heap.size + 1 + 1, 0, none⟩ = some (.slice none 0 0) := by rw [hb1.cell (p := ⟨w.heap.size + 1 + 1, 0, none⟩) (by simp)]; simp [go_sem]
  have f2 : w1.frozen? ⟨w.heap.size + 1 + 1, 0, none⟩ = false := by rw [hb1.frozen (p := ⟨w.heap.size + 1 + 1, 0, none⟩) (by simp)]; simp [go_sem]
  have z1 : w.heap.size + 1 + 1 < w1.heap.size := by have := hb1.size; simp at this; omega
  clear hb1 hba
  cases hp : vfOk X n 1000000
  · have HN : Hid (ccOk X n Y n' = false) := by show ccOk X n Y n' = false; simp [ccOk, hp]
    go_wp2
    have hb := HB1.out
    exact bodyPost_ret (v := .tuple #[.agg #[.slice none 0 0], .bool false]) (by simp [results, Try.results26, go_sem, q2]) rfl (merge_no HN.out (by repeat (first | refine Below.setCell ?_ (by (try simp) <;> omega) _ | refine Below.alloc ?_ (by (try simp) <;> omega) _ | refine Below.drew ?_ | assumption | exact Below.refl _ _ | refine Below.trans ?_ (Below.mono (by assumption) (by (try simp) <;> omega)))))
  go_wp2_with fail
  refine (l2Clock_any _ _ _ Y _ hn' (HS.out.2.below HB1.out (Nat.le_refl _))).mono ?_
  rintro r w2 ⟨rfl, hb2⟩
  have HB2 : Hid (Below w.heap.size w w2) := HB1.out.trans (hb2.mono HB1.out.size)
  have r0 : w2.cell? ⟨w.heap.size, 0, none⟩ = some (.slice a n cap) := (hb2.cell (p := ⟨w.heap.size, 0, none⟩) (by show w.heap.size < w1.heap.size; omega)).trans q0
  have r1 : w2.cell? ⟨w.heap.size + 1, 0, none⟩ = some (.slice a' n' cap') := (hb2.cell (p := ⟨w.heap.size + 1, 0, none⟩) (by show w.heap.size + 1 < w1.heap.size; omega)).trans q1
  have r2 : w2.cell? ⟨w.heap.size + 1 + 1, 0, none⟩ = some (.slice none 0 0) := (hb2.cell (p := ⟨w.heap.size + 1 + 1, 0, none⟩) z1).trans q2
  have e2 : w2.frozen? ⟨w.heap.size + 1 + 1, 0, none⟩ = false := (hb2.frozen (p := ⟨w.heap.size + 1 + 1, 0, none⟩) z1).trans f2
  have z2 : w.heap.size + 1 + 1 < w2.heap.size := Nat.lt_of_lt_of_le z1 hb2.size
  clear hb2 HB1 q0 q1 q2 f2 z1
  cases hq : vfOk Y n' 1000000
  · have HN : Hid (ccOk X n Y n' = false) := by show ccOk X n Y n' = false; simp [ccOk, hq]
    go_wp2
    have hb := HB2.out
    exact bodyPost_ret (v := .tuple #[.agg #[.slice none 0 0], .bool false]) (by simp [results, Try.results26, go_sem, r2]) rfl (merge_no HN.out (by repeat (first | refine Below.setCell ?_ (by (try simp) <;> omega) _ | refine Below.alloc ?_ (by (try simp) <;> omega) _ | refine Below.drew ?_ | assumption | exact Below.refl _ _ | refine Below.trans ?_ (Below.mono (by assumption) (by (try simp) <;> omega)))))
  have HN : Hid (ccOk X n Y n' = true) := by show ccOk X n Y n' = true; simp [ccOk, hp, hq]
  have h6 : n = 6 := by simp [vfOk] at hp; exact hp.1
  have h6' : n' = 6 := by simp [vfOk] at hq; exact hq.1
  clear hp hq
  subst h6 h6'
  go_wp2_with fail
  refine (l2Merge_any _ _ X _ _ Y _ (HS.out.1.kept HB2.out) (HS.out.2.kept HB2.out)).mono ?_
  rintro r w3 ⟨⟨g, cap3, rfl, hx⟩, hb3⟩
  have r3 : w3.cell? ⟨w.heap.size + 1 + 1, 0, none⟩ = some (.slice none 0 0) := (hb3.cell (p := ⟨w.heap.size + 1 + 1, 0, none⟩) z2).trans r2
  have e3 : w3.frozen? ⟨w.heap.size + 1 + 1, 0, none⟩ = false := (hb3.frozen (p := ⟨w.heap.size + 1 + 1, 0, none⟩) z2).trans e2
  have HF : Hid (IntS w3 w2.heap.size w3.heap.size (some ⟨g, 0, none⟩) 6 (fun i => max (X i) (Y i)) ∧ Below w.heap.size w w3) := ⟨hx, HB2.out.trans (hb3.mono HB2.out.size)⟩
  clear hx hb3 r0 r1 r2 e2
  go_wp2
  have hb := HF.out.2
  refine bodyPost_ret (v := .tuple #[.agg #[.slice (some ⟨g, 0, none⟩) 6 cap3], .bool true]) (by simp [results, Try.results26, go_sem, r3]) rfl (merge_yes (Z := fun i => max (X i) (Y i)) HN.out ?_ (fun i hi => rfl) (by repeat (first | refine Below.setCell ?_ (by (try simp) <;> omega) _ | refine Below.alloc ?_ (by (try simp) <;> omega) _ | refine Below.drew ?_ | assumption | exact Below.refl _ _ | refine Below.trans ?_ (Below.mono (by assumption) (by (try simp) <;> omega)))))
  have := (ints_set (v := .slice (some ⟨g, 0, none⟩) 6 cap3) HF.out.1 (g := w.heap.size + 1 + 1) (by omega)).wide (show w.heap.size ≤ _ by omega) (Nat.le_refl _)
  simpa using this
/-- A new block of one cell, behind a call that only makes memory. -/
theorem new_zero {w W w' : World} {v : Value} {t : TypeId} (hW : W.heap = w.heap.push (.cells #[v] t)) (hb : Below W.heap.size W w') :
    w'.cell? ⟨w.heap.size, 0, none⟩ = some v ∧ w'.frozen? ⟨w.heap.size, 0, none⟩ = false ∧ w.heap.size < w'.heap.size := by
  have hlt : w.heap.size < W.heap.size := by rw [hW]; simp
  have e : W.heap[w.heap.size]? = (w.alloc (.cells #[v] t)).heap[w.heap.size]? := by rw [hW]; rfl
  refine ⟨?_, ?_, Nat.lt_of_lt_of_le hlt hb.size⟩
  · rw [hb.cell (p := ⟨w.heap.size, 0, none⟩) hlt, World.cell?_of_block (a := ⟨w.heap.size, 0, none⟩) e]; simp
  · rw [hb.frozen (p := ⟨w.heap.size, 0, none⟩) hlt, World.frozen?_of_block (a := ⟨w.heap.size, 0, none⟩) e]; simp
theorem row_new {w W w' : World} {v : Value} {t : TypeId} {a : Option Addr} {n : Nat} {X : Nat → Int} (hW : W.heap = w.heap.push (.cells #[v] t)) (h : IntS w' W.heap.size w'.heap.size a n X) : RowS w' (w.heap.size + 1) w'.heap.size a n X :=
  ⟨h.wide (by rw [hW]; simp) (Nat.le_refl _), Nat.le_refl _⟩
theorem keepA {W : World} {b : Nat} {v : Value} (h : W.cell? ⟨b, 0, none⟩ = some v) (hb : b < W.heap.size) (o : Obj) : (W.alloc o).cell? ⟨b, 0, none⟩ = some v := ((Go.Joins.below_alloc1 W o).cell (p := ⟨b, 0, none⟩) hb).trans h
theorem keepS {W : World} {b g : Nat} {v x : Value} (h : W.cell? ⟨b, 0, none⟩ = some v) (hb : g ≠ b) : (W.setCell ⟨g, 0, none⟩ x).cell? ⟨b, 0, none⟩ = some v := by rw [World.cell?_setCell_other _ _ _ _ (addr_ne' hb)]; exact h
end Go.Proofs.Ytjophhiccbkpjaa
