/- The contracts of commitPlaces and RecoverableOf. -/
import Derived.Test.YthbpjmnlgfahmaaLwC
import Derived.Test.YthbpjmnlgfahmaaRg
import Derived.Test.YthbpjmnlgfahmaaBx
namespace Go.Proofs.Ythbpjmnlgfahmaa
open Go.RowKit
set_option linter.unusedVariables false

/-- Block g holds nine numbers and may be written. -/
def IArr (w : World) (g : Nat) (f : Nat → Int) : Prop := (∀ i, i < 9 → w.cell? ⟨g, i, none⟩ = some (.int .i64 (f i)) ∧ w.frozen? ⟨g, i, none⟩ = false) ∧ g < w.heap.size
theorem IArr.next {w w' : World} {g : Nat} {x : Nat → Int} (h : IArr w g x) (hb : Below w.heap.size w w') : IArr w' g x :=
  ⟨fun i hi => ⟨(hb.cell (p := ⟨g, i, none⟩) h.2).trans (h.1 i hi).1, (hb.frozen (p := ⟨g, i, none⟩) h.2).trans (h.1 i hi).2⟩, Nat.lt_of_lt_of_le h.2 hb.size⟩
theorem IArr.congr {w : World} {g : Nat} {x y : Nat → Int} (h : IArr w g x) (e : ∀ i, i < 9 → x i = y i) : IArr w g y :=
  ⟨fun i hi => ⟨by rw [← e i hi]; exact (h.1 i hi).1, (h.1 i hi).2⟩, h.2⟩
theorem IArr.new (w : World) (f : Nat → Int) (t : TypeId) : IArr (w.alloc (.cells #[.int .i64 (f 0), .int .i64 (f 1), .int .i64 (f 2), .int .i64 (f 3), .int .i64 (f 4), .int .i64 (f 5), .int .i64 (f 6), .int .i64 (f 7), .int .i64 (f 8)] t)) w.heap.size f :=
  ⟨upto9 ⟨by simp, by simp⟩ ⟨by simp, by simp⟩ ⟨by simp, by simp⟩ ⟨by simp, by simp⟩ ⟨by simp, by simp⟩ ⟨by simp, by simp⟩ ⟨by simp, by simp⟩ ⟨by simp, by simp⟩ ⟨by simp, by simp⟩, by simp⟩
theorem IArr.set {w : World} {g k : Nat} {x : Nat → Int} (h : IArr w g x) (hk : k < 9) (n : Int) : IArr (w.setCell ⟨g, k, none⟩ (.int .i64 n)) g (fun i => if i = k then n else x i) := by
  refine ⟨fun i hi => ⟨?_, by simpa using (h.1 i hi).2⟩, by simpa using h.2⟩
  by_cases e : i = k
  · subst e; simp only [if_true]; exact World.cell?_setCell_same _ _ _ (h.1 i hi).1
  · rw [World.cell?_setCell_other _ _ _ _ (addr_ne (fun q => e q.symm))]; simp only [if_neg e]; exact (h.1 i hi).1
theorem IArr.setOther {w : World} {g g' q : Nat} {x : Nat → Int} {v : Value} (h : IArr w g x) (hg : g ≠ g') : IArr (w.setCell ⟨g', q, none⟩ v) g x :=
  ⟨fun i hi => ⟨by rw [World.cell?_setCell_other _ _ _ _ (addr_ne' (fun e => hg e.symm))]; exact (h.1 i hi).1, by simpa using (h.1 i hi).2⟩, by simpa using h.2⟩
theorem IArr.nine {w : World} {g : Nat} {x : Nat → Int} (h : IArr w g x) :
    w.cell? ⟨g, 0, none⟩ = some (.int .i64 (x 0)) ∧ w.cell? ⟨g, 1, none⟩ = some (.int .i64 (x 1)) ∧ w.cell? ⟨g, 2, none⟩ = some (.int .i64 (x 2)) ∧ w.cell? ⟨g, 3, none⟩ = some (.int .i64 (x 3)) ∧ w.cell? ⟨g, 4, none⟩ = some (.int .i64 (x 4)) ∧ w.cell? ⟨g, 5, none⟩ = some (.int .i64 (x 5)) ∧ w.cell? ⟨g, 6, none⟩ = some (.int .i64 (x 6)) ∧ w.cell? ⟨g, 7, none⟩ = some (.int .i64 (x 7)) ∧ w.cell? ⟨g, 8, none⟩ = some (.int .i64 (x 8)) :=
  ⟨(h.1 0 (by omega)).1, (h.1 1 (by omega)).1, (h.1 2 (by omega)).1, (h.1 3 (by omega)).1, (h.1 4 (by omega)).1, (h.1 5 (by omega)).1, (h.1 6 (by omega)).1, (h.1 7 (by omega)).1, (h.1 8 (by omega)).1⟩
theorem IArr.nineF {w : World} {g : Nat} {x : Nat → Int} (h : IArr w g x) :
    w.frozen? ⟨g, 0, none⟩ = false ∧ w.frozen? ⟨g, 1, none⟩ = false ∧ w.frozen? ⟨g, 2, none⟩ = false ∧ w.frozen? ⟨g, 3, none⟩ = false ∧ w.frozen? ⟨g, 4, none⟩ = false ∧ w.frozen? ⟨g, 5, none⟩ = false ∧ w.frozen? ⟨g, 6, none⟩ = false ∧ w.frozen? ⟨g, 7, none⟩ = false ∧ w.frozen? ⟨g, 8, none⟩ = false :=
  ⟨(h.1 0 (by omega)).2, (h.1 1 (by omega)).2, (h.1 2 (by omega)).2, (h.1 3 (by omega)).2, (h.1 4 (by omega)).2, (h.1 5 (by omega)).2, (h.1 6 (by omega)).2, (h.1 7 (by omega)).2, (h.1 8 (by omega)).2⟩
def nineI (f : Nat → Int) : Value := .agg #[.int .i64 (f 0), .int .i64 (f 1), .int .i64 (f 2), .int .i64 (f 3), .int .i64 (f 4), .int .i64 (f 5), .int .i64 (f 6), .int .i64 (f 7), .int .i64 (f 8)]
def comA' (K T : Nat → Int) (k q : Nat) : Int := comP K T k (q : Int)
theorem comP_step {K T : Nat → Int} {k q : Nat} (h3 : K k = 3) (ht : T k = (q : Int)) : ∀ i, i < 9 → (if i = q then (k : Int) else comA' K T k i) = comA' K T (k + 1) i := by
  intro i _
  simp only [comA', comP, h3, ht]
  by_cases e : i = q
  · subst e; simp
  · rw [if_neg e, if_neg (fun g => e (by have := g.2; omega))]
theorem comP_skip {K T : Nat → Int} {k : Nat} (h3 : K k ≠ 3) : ∀ i, i < 9 → comA' K T k i = comA' K T (k + 1) i := by
  intro i _
  simp only [comA', comP, if_neg (fun g : K k = 3 ∧ T k = (i : Int) => h3 g.1)]
theorem comP_bd (K T : Nat → Int) (t : Int) : ∀ k, 0 ≤ comP K T k t ∧ comP K T k t ≤ k
  | 0 => by simp [comP]
  | k + 1 => by
    have := comP_bd K T t k
    simp only [comP]
    split <;> omega

theorem two_nines (w : World) : IArr ((w.alloc (.cells #[.int .i64 0, .int .i64 0, .int .i64 0, .int .i64 0, .int .i64 0, .int .i64 0, .int .i64 0, .int .i64 0, .int .i64 0] 102)).alloc (.cells #[.int .i64 0, .int .i64 0, .int .i64 0, .int .i64 0, .int .i64 0, .int .i64 0, .int .i64 0, .int .i64 0, .int .i64 0] 102)) w.heap.size (fun _ => 0) ∧
    IArr ((w.alloc (.cells #[.int .i64 0, .int .i64 0, .int .i64 0, .int .i64 0, .int .i64 0, .int .i64 0, .int .i64 0, .int .i64 0, .int .i64 0] 102)).alloc (.cells #[.int .i64 0, .int .i64 0, .int .i64 0, .int .i64 0, .int .i64 0, .int .i64 0, .int .i64 0, .int .i64 0, .int .i64 0] 102)) (w.heap.size + 1) (fun _ => 0) :=
  ⟨(IArr.new w (fun _ => 0) 102).next (Go.Joins.below_alloc1 _ _), by
    have := IArr.new (w.alloc (.cells #[.int .i64 0, .int .i64 0, .int .i64 0, .int .i64 0, .int .i64 0, .int .i64 0, .int .i64 0, .int .i64 0, .int .i64 0] 102)) (fun _ => 0) 102
    simpa using this⟩

set_option maxRecDepth 100000 in
set_option maxHeartbeats 4000000 in
theorem commitPlaces_any (a : Option Addr) (n cap : Nat) (K T : Nat → Int) (S : Nat → ByteArray) (w : World) (hn : n ≤ 1048576) (hg : goodP (okO K T S) K T n) (hs : Sl w a n 3 (opF K T S)) :
    Calls Try.prog 77 #[.slice a n cap] w fun r w' => r = .returned (nineI (comA' K T n)) ∧ Below w.heap.size w w' := by
  have HS : Hid (Sl w a n 3 (opF K T S)) := hs
  have HG : Hid (goodP (okO K T S) K T n) := hg
  clear hs hg
  go_enter Try.func77, Try.ntmps77
  go_wp2
  go_loopw [8] (fun i wr => ∃ k : Nat, k ≤ n ∧ i = .int .i64 k ∧ IArr wr w.heap.size (fun _ => 0) ∧ IArr wr (w.heap.size + 1) (comA' K T k) ∧ Below w.heap.size w wr) (fun i _ => n - (intOf i).toNat)
  case atStart => exact ⟨0, Nat.zero_le _, rfl, (two_nines w).1, (two_nines w).2, (by repeat (first | refine Below.setCell ?_ (by (try simp) <;> omega) _ | refine Below.alloc ?_ (by (try simp) <;> omega) _ | refine Below.drew ?_ | assumption | exact Below.refl _ _ | refine Below.trans ?_ (Below.mono (by assumption) (by (try simp) <;> omega))))⟩
  case round =>
    obtain ⟨k, hk, rfl, hA, hC, hBr⟩ := hrel
    by_cases hlt : k < n
    · rcases HS.out.below hBr (Nat.le_refl _) with h | ⟨b, off, rfl, hbs, hE⟩
      · omega
      have hlt' : (k : Int) < (n : Int) := by omega
      obtain ⟨c0, c1, c2⟩ := op_cells hE hlt
      have hz : w.heap.size ≤ wr.heap.size := hBr.size
      obtain ⟨q, hq, hq1, hq9⟩ := op_t (show opB (K k) (T k) (S k) = true from (HG.out.2 k hlt).1)
      have HQ : Hid (T k = (q : Int)) := hq
      rw [hq] at c1
      have hq9' : (q : Int) < 9 := by omega
      have e1 := (hC.1 q hq9).1
      have f1 := (hC.1 q hq9).2
      have zz := hC.2
      have HH : Hid (IArr wr w.heap.size (fun _ => 0) ∧ IArr wr (w.heap.size + 1) (comA' K T k) ∧ Below w.heap.size w wr) := ⟨hA, hC, hBr⟩
      clear hA hC hBr hE hq
      cases h3 : (K k == 3)
      · have h3' : K k ≠ 3 := by simpa using h3
        have HK : Hid (K k ≠ 3) := h3'
        clear h3'
        go_wp2
        go_roundw
        case rel => exact ⟨k + 1, by omega, by go_num, HH.out.1.next (Go.Joins.below_alloc1 _ _), (HH.out.2.1.next (Go.Joins.below_alloc1 _ _)).congr (comP_skip HK.out), HH.out.2.2.alloc hz _⟩
        case measure => simp [intOf]; omega
      · have HK : Hid (K k = 3) := by show K k = 3; simpa using h3
        have e1' : (wr.alloc (.cells #[.int .i64 (K k), .int .i64 (q : Int), .string (S k)] 44)).cell? ⟨w.heap.size + 1, q, none⟩ = some (.int .i64 (comA' K T k q)) := ((Go.Joins.below_alloc1 _ _).cell (p := ⟨w.heap.size + 1, q, none⟩) zz).trans e1
        go_wp2
        go_roundw
        case rel =>
          refine ⟨k + 1, by omega, by go_num, (HH.out.1.setOther (by omega)).next (Go.Joins.below_alloc1 _ _), (((HH.out.2.1.set hq9 _).next (Go.Joins.below_alloc1 _ _))).congr (comP_step HK.out HQ.out), (HH.out.2.2.setCell (p := ⟨w.heap.size + 1, q, none⟩) (by simp) _).alloc (by rw [World.size_setCell]; exact hz) _⟩
        case measure => simp [intOf]; omega
    · have hkn : k = n := by omega
      subst hkn
      obtain ⟨a0, a1, a2, a3, a4, a5, a6, a7, a8⟩ := hA.nine
      obtain ⟨f0, f1, f2, f3, f4, f5, f6, f7, f8⟩ := hA.nineF
      obtain ⟨b0, b1, b2, b3, b4, b5, b6, b7, b8⟩ := hC.nine
      have z0 := hA.2
      have z1 := hC.2
      have HB : Hid (Below w.heap.size w wr) := hBr
      clear hA hC hBr
      go_wp2
      exact bodyPost_ret (v := nineI (comA' K T k)) (by simp [results, Try.results77, go_sem, nineI, a0, a1, a2, a3, a4, a5, a6, a7, a8]) rfl ⟨rfl, by have hb := HB.out; exact (by repeat (first | refine Below.setCell ?_ (by (try simp) <;> omega) _ | refine Below.alloc ?_ (by (try simp) <;> omega) _ | refine Below.drew ?_ | assumption | exact Below.refl _ _ | refine Below.trans ?_ (Below.mono (by assumption) (by (try simp) <;> omega))))⟩
end Go.Proofs.Ythbpjmnlgfahmaa
