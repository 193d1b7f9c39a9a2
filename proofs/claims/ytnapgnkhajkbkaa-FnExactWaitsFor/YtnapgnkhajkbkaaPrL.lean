/- Lists of pairs of numbers, where no ops are: the contracts of the law's own functions eqPair, eqPairS, markPairS, heldPairS. -/
import Derived.Test.YtnapgnkhajkbkaaLkL
import Derived.Test.YtnapgnkhajkbkaaTurn
import Derived.Test.YtnapgnkhajkbkaaMarkT
import Derived.Test.YtnapgnkhajkbkaaIntsH
namespace Go.Proofs.Ytnapgnkhajkbkaa
open Go.RowKit
set_option linter.unusedVariables false

/-- The pairs' cells, place by place. -/
def prF (P Q : Nat → Int) (i j : Nat) : Value := if j = 0 then .int .i64 (P i) else .int .i64 (Q i)
theorem pr_cells {w : World} {b off n k : Nat} {P Q : Nat → Int} (h : Elems w b off n 2 (prF P Q)) (hk : k < n) :
    w.cell? ⟨b, off + k * 2, none⟩ = some (.int .i64 (P k)) ∧ w.cell? ⟨b, off + k * 2 + 1, none⟩ = some (.int .i64 (Q k)) := ⟨h k hk 0 (by omega), h k hk 1 (by omega)⟩
def PRow (w : World) (B C : Nat) (a : Option Addr) (n : Nat) (P Q : Nat → Int) : Prop := SRow w B C a n 2 (prF P Q)
theorem PRow.next {w w' : World} {B C : Nat} {a : Option Addr} {n : Nat} {P Q : Nat → Int} (h : PRow w B C a n P Q) (hb : Below w.heap.size w w') : PRow w' B C a n P Q := SRow.next h hb
theorem PRow.turn {w w' : World} {B C B' C' : Nat} {a : Option Addr} {n : Nat} {P Q : Nat → Int} (h : PRow w B C a n P Q) (ht : Turned B' C' w w') (ha : C ≤ B' ∨ C' ≤ B) : PRow w' B C a n P Q := SRow.trn h (show Trn B' C' w w' from ht) ha
theorem PRow.sl {w : World} {B C : Nat} {a : Option Addr} {n : Nat} {P Q : Nat → Int} (h : PRow w B C a n P Q) : Sl w a n 2 (prF P Q) := SRow.sl h

set_option maxHeartbeats 400000 in
theorem eqPair_same (t m : Int) (w : World) :
    Calls Try.prog 85 #[.agg #[.int .i64 t, .int .i64 m], .agg #[.int .i64 t, .int .i64 m]] w fun r w' => r = .returned (.bool true) ∧ Below w.heap.size w w' := by
  go_enter Try.func85, Try.ntmps85
  go_wp2
  go_ret
  exact ⟨rfl, (by repeat (first | refine Below.setCell ?_ (by (try simp) <;> omega) _ | refine Below.alloc ?_ (by (try simp) <;> omega) _ | refine Below.drew ?_ | assumption | exact Below.refl _ _ | refine Below.trans ?_ (Below.mono (by assumption) (by (try simp) <;> omega))))⟩

set_option maxHeartbeats 1000000 in
theorem eqPairS_same (a a' : Option Addr) (n cap cap' : Nat) (P Q : Nat → Int) (w : World) (hn : n ≤ 1048576) (hs : Sl w a n 2 (prF P Q)) (hs' : Sl w a' n 2 (prF P Q)) :
    Calls Try.prog 35 #[.slice a n cap, .slice a' n cap'] w fun r w' => r = .returned (.bool true) ∧ Below w.heap.size w w' := by
  go_enter Try.func35, Try.ntmps35
  go_wp2
  go_loopw [5] (fun i wr => ∃ k : Nat, k ≤ n ∧ i = .int .i64 k ∧ Below w.heap.size w wr) (fun i _ => n - (intOf i).toNat)
  case atStart => exact ⟨0, Nat.zero_le _, rfl, Below.refl _ _⟩
  case round =>
    obtain ⟨k, hk, rfl, hBr⟩ := hrel
    by_cases hlt : k < n
    · rcases hs.below hBr (Nat.le_refl _) with h | ⟨b, off, rfl, hbs, hE⟩
      · omega
      rcases hs'.below hBr (Nat.le_refl _) with h | ⟨b', off', rfl, hbs', hE'⟩
      · omega
      obtain ⟨c0, c1⟩ := pr_cells hE hlt
      obtain ⟨d0, d1⟩ := pr_cells hE' hlt
      have hlt' : (k : Int) < (n : Int) := by omega
      clear hs hs' hE hE'
      go_upto_region 6 with fail
      go_cut [26] (fun s26 wx => s26 = .bool false ∧ Below w.heap.size w wx)
      case first =>
        go_region_with (go_at_call 85; refine (eqPair_same _ _ _).mono ?_; rintro e w1 ⟨rfl, hb⟩)
        all_goals (go_wp2_with fail; go_meet; exact ⟨rfl, hBr.drew.trans (hb.mono hBr.size)⟩)
      case rest =>
        obtain ⟨rfl, hb2⟩ := hcut
        go_wp2
        go_roundw
        case rel => exact ⟨k + 1, by omega, by go_num, hb2⟩
        case measure => simp [intOf]; omega
    · have hkn : k = n := by omega
      subst hkn
      clear hs hs'
      go_wp2
      go_ret
      exact ⟨rfl, hBr⟩

def mkP (q : Int) (i : Nat) : Int := q + 2 * i
def mkQ (q : Int) (i : Nat) : Int := q + 2 * i + 1
theorem mk_vs {q y : Int} {k : Nat} (hy : y = q + 2 * k) : ∀ j, j < 2 → ([.int .i64 y, .int .i64 (y + 1)] : List Value)[j]? = some (prF (mkP q) (mkQ q) k j) := by
  subst hy
  intro j hj
  match j, hj with
  | 0, _ => rfl
  | 1, _ => rfl
set_option maxRecDepth 100000 in
set_option maxHeartbeats 2000000 in
theorem markPairS_any (a : Option Addr) (n cap : Nat) (P Q : Nat → Int) (q : Int) (B C : Nat) (w : World) (hn : n ≤ 1048576) (h0 : 0 ≤ q) (h1 : q ≤ 1099511627776) (hs : PRow w B C a n P Q) :
    Calls Try.prog 36 #[.slice a n cap, .int .i64 q] w fun r w' => r = .returned (.int .i64 (q + 2 * n)) ∧ PRow w' B C a n (mkP q) (mkQ q) ∧ Turned B C w w' := by
  rcases hs.1 with hz | ⟨g, rfl, hB, hC, hg, hE, hR⟩
  · subst hz
    have HC : Hid (C ≤ w.heap.size) := hs.2
    clear hs
    go_enter Try.func36, Try.ntmps36
    go_wp2
    go_loopw [5, 1] (fun i q' wr => i = .int .i64 0 ∧ q' = .int .i64 q ∧ wr = w) (fun _ _ _ => 0)
    case atStart => exact ⟨rfl, rfl, rfl⟩
    case round =>
      obtain ⟨rfl, rfl, rfl⟩ := hrel
      go_wp2
      go_ret
      exact ⟨by simp, ⟨Or.inl rfl, HC.out⟩, Trn.refl _ _ _⟩
  have HC : Hid (C ≤ w.heap.size) := hs.2
  clear hs hE
  go_enter Try.func36, Try.ntmps36
  go_wp2
  go_loopw [5, 1] (fun i q' wr => ∃ k : Nat, k ≤ n ∧ i = .int .i64 k ∧ q' = .int .i64 (q + 2 * k) ∧ Elems wr g 0 k 2 (prF (mkP q) (mkQ q)) ∧ Room wr g (n * 2) ∧ g < wr.heap.size ∧ Trn B C w wr) (fun i _ _ => n - (intOf i).toNat)
  case atStart => exact ⟨0, Nat.zero_le _, rfl, by simp, fun i hi => absurd hi (by omega), hR, hg, Trn.refl _ _ _⟩
  case round =>
    obtain ⟨k, hk, rfl, rfl, hEr, hRr, hgr, ht⟩ := hrel
    clear hR hg
    by_cases hlt : k < n
    · have hlt' : (k : Int) < (n : Int) := by omega
      obtain ⟨y, hy⟩ : ∃ y, y = q + 2 * (k : Int) := ⟨_, rfl⟩
      rw [← hy]
      have hyb : 0 ≤ y ∧ y ≤ 2199023255552 := by omega
      have HY : Hid (y = q + 2 * (k : Int)) := hy
      clear hy
      obtain ⟨⟨x0, r0⟩, f0⟩ := hRr (k * 2) (by omega)
      obtain ⟨⟨x1, r1⟩, f1⟩ := hRr (k * 2 + 1) (by omega)
      have P0 : Part wr g n 2 k 0 [.int .i64 y, .int .i64 (y + 1)] (prF (mkP q) (mkQ q)) := Part.start hEr hRr hgr
      have HF : Hid (_ ∧ _) := ⟨((P0.set hlt (by omega) rfl).set hlt (by omega) rfl).done (mk_vs HY.out), (ht.set (p := ⟨g, k * 2, none⟩) hB hC (.int .i64 y)).set (p := ⟨g, k * 2 + 1, none⟩) hB hC (.int .i64 (y + 1))⟩
      clear P0 hEr hRr ht
      go_wp2
      go_roundw
      case rel => exact ⟨k + 1, by omega, by go_num, by have := HY.out; congr 1; omega, HF.out.1.1, HF.out.1.2.1, HF.out.1.2.2, HF.out.2⟩
      case measure => simp [intOf]; omega
    · have hkn : k = n := by omega
      subst hkn
      have HF : Hid (PRow wr B C (some ⟨g, 0, none⟩) k (mkP q) (mkQ q) ∧ Trn B C w wr) := ⟨⟨Or.inr ⟨g, rfl, hB, hC, hgr, hEr, hRr⟩, Nat.le_trans HC.out ht.2.2.2.1⟩, ht⟩
      clear hEr hRr ht
      go_wp2
      go_ret
      exact ⟨rfl, HF.out⟩

set_option maxRecDepth 100000 in
set_option maxHeartbeats 2000000 in
theorem heldPairS_any (a : Option Addr) (n cap : Nat) (q : Int) (w : World) (hn : n ≤ 1048576) (h0 : 0 ≤ q) (h1 : q ≤ 1099511627776) (hs : Sl w a n 2 (prF (mkP q) (mkQ q))) :
    Calls Try.prog 37 #[.slice a n cap, .int .i64 q] w fun r w' => r = .returned (.int .i64 (q + 2 * n)) ∧ w' = w := by
  have HS : Hid (Sl w a n 2 (prF (mkP q) (mkQ q))) := hs
  clear hs
  go_enter Try.func37, Try.ntmps37
  go_wp2
  go_loopw [5, 1] (fun i q' wr => ∃ k : Nat, k ≤ n ∧ i = .int .i64 k ∧ q' = .int .i64 (q + 2 * k) ∧ wr = w) (fun i _ _ => n - (intOf i).toNat)
  case atStart => exact ⟨0, Nat.zero_le _, rfl, by simp, rfl⟩
  case round =>
    obtain ⟨k, hk, rfl, rfl, rfl⟩ := hrel
    by_cases hlt : k < n
    · rcases HS.out with h | ⟨b, off, rfl, hbs, hE⟩
      · omega
      obtain ⟨c0, c1⟩ := pr_cells hE hlt
      have hlt' : (k : Int) < (n : Int) := by omega
      obtain ⟨y, hy⟩ : ∃ y, y = q + 2 * (k : Int) := ⟨_, rfl⟩
      have e0 : mkP q k = y := hy.symm
      have e1 : mkQ q k = y + 1 := by rw [hy]; rfl
      rw [e0] at c0
      rw [e1] at c1
      rw [← hy]
      have hyb : 0 ≤ y ∧ y ≤ 2199023255552 := by omega
      have HY : Hid (y = q + 2 * (k : Int)) := hy
      clear hy hE e0 e1
      go_wp2
      go_roundw
      case rel => exact ⟨k + 1, by omega, by go_num, by have := HY.out; congr 1; omega, trivial⟩
      case measure => simp [intOf]; omega
    · have hkn : k = n := by omega
      subst hkn
      go_wp2
      go_ret
      exact ⟨rfl, rfl⟩

def cellsP (L : List (Int × Int)) : List Value := L.flatMap fun p => [.int .i64 p.1, .int .i64 p.2]
theorem cellsP_snoc (L : List (Int × Int)) (x y : Int) : cellsP (L ++ [(x, y)]) = cellsP L ++ [.int .i64 x, .int .i64 y] := by simp [cellsP]
def pP (L : List (Int × Int)) (i : Nat) : Int := (L.getD i (0, 0)).1
def pQ (L : List (Int × Int)) (i : Nat) : Int := (L.getD i (0, 0)).2
theorem cellsP_at (L : List (Int × Int)) : ∀ i j, i < L.length → j < 2 → (cellsP L)[i * 2 + j]? = some (prF (pP L) (pQ L) i j) := by
  induction L with
  | nil => intro i j hi; simp at hi
  | cons p L ih =>
    intro i j hi hj
    cases i with
    | zero =>
      match j, hj with
      | 0, _ => simp [cellsP, prF, pP]
      | 1, _ => simp [cellsP, prF, pQ]
    | succ i =>
      have h := ih i j (by simpa using hi) hj
      have e : (cellsP (p :: L))[(i + 1) * 2 + j]? = (cellsP L)[i * 2 + j]? := by
        have : cellsP (p :: L) = .int .i64 p.1 :: .int .i64 p.2 :: cellsP L := by simp [cellsP]
        rw [this, show (i + 1) * 2 + j = (i * 2 + j) + 1 + 1 by omega]; simp
      rw [e, h]
      simp [prF, pP, pQ]
theorem cellsP_len (L : List (Int × Int)) : (cellsP L).length = L.length * 2 := by
  induction L with
  | nil => rfl
  | cons p L ih =>
    have : cellsP (p :: L) = .int .i64 p.1 :: .int .i64 p.2 :: cellsP L := by simp [cellsP]
    rw [this]; simp [ih]; omega
theorem cellsP_L (L : List (Int × Int)) : cellsP L = cellsL (prF (pP L) (pQ L)) 2 L.length := by
  apply List.ext_getElem?
  intro k
  rcases Nat.lt_or_ge k (L.length * 2) with h | h
  · have e : k = k / 2 * 2 + k % 2 := by omega
    rw [e, cellsP_at L (k / 2) (k % 2) (by omega) (by omega), cellsL_at _ 2 _ (k / 2) (k % 2) (by omega) (by omega)]
  · rw [List.getElem?_eq_none (by rw [cellsP_len]; exact h), List.getElem?_eq_none (by rw [cellsL_len]; exact h)]
theorem PRow.of {w : World} {base : Nat} {e : TypeId} {v : Value} {L : List (Int × Int)} (h : w.ownsRow base e 2 v L.length (cellsP L)) : ∃ a cap, v = .slice a L.length cap ∧ PRow w base w.heap.size a L.length (pP L) (pQ L) := by
  rw [cellsP_L] at h
  obtain ⟨a, cap, e, _, hs⟩ := SRow.of h
  exact ⟨a, cap, e, hs⟩
theorem info_pair : (Try.prog.info? 35).map (fun i => (i.zero, i.size, i.bytes)) = some (some (.agg #[.int .i64 0, .int .i64 0]), 2, 16) := by kernel_rfl
theorem Bx.grown {w w' : World} {row : Option Nat} {g : Nat} {vs : List Value} (h : Bx w g vs) (hg : w.grownBy w' row) (hs : w.heap.size ≤ w'.heap.size) (hne : some g ≠ row) : Bx w' g vs :=
  ⟨fun j hj => ⟨(hg.cell_far ⟨g, j, none⟩ h.2 hne).trans (h.1 j hj).1, (hg.frozen_far ⟨g, j, none⟩ h.2 hne).trans (h.1 j hj).2⟩, Nat.lt_of_lt_of_le h.2 hs⟩
def PairPost (L : List (Int × Int)) (g : Bool) (w : World) (r : Ending) (w' : World) : Prop :=
  (∃ a cap, r = .returned (.tuple #[.slice a L.length cap, .bool g]) ∧ PRow w' w.heap.size w'.heap.size a L.length (pP L) (pQ L)) ∧ Below w.heap.size w w'
theorem pair_no {L : List (Int × Int)} {g : Bool} {w w' : World} (hL : L = []) (hg : g = false) (hb : Below w.heap.size w w') : PairPost L g w (.returned (.tuple #[.slice none 0 0, .bool false])) w' := by
  subst hL hg
  exact ⟨⟨none, 0, rfl, Or.inl rfl, Nat.le_refl _⟩, hb⟩
end Go.Proofs.Ytnapgnkhajkbkaa
