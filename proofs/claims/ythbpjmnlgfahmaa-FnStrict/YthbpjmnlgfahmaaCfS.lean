/- The contracts of the specification's l3Conflicts and ConflictsOf. -/
import Derived.Test.YthbpjmnlgfahmaaCfX
namespace Go.Proofs.Ythbpjmnlgfahmaa
open Go.RowKit
set_option linter.unusedVariables false

def FdP (K T : Nat → Int) (S : Nat → ByteArray) (n x y : Nat) (fd : Bool) (k m : Nat) : Prop := fd = true ↔ ptP K T S n k m x y
theorem FdP.zero (K T : Nat → Int) (S : Nat → ByteArray) (n x y : Nat) : FdP K T S n x y false 0 0 := by
  constructor
  · intro h; cases h
  · rintro ⟨i, j, h1, h2, h3 | h3, _⟩ <;> omega
theorem FdP.step {K T : Nat → Int} {S : Nat → ByteArray} {n x y k m : Nat} {fd : Bool} (h : FdP K T S n x y fd k m) (hm : k + 1 + m < n) :
    FdP K T S n x y (fd || (T k == (x : Int) && (T (k + 1 + m) == (y : Int) && clN K T S k (k + 1 + m)))) k (m + 1) := by
  constructor
  · intro g
    simp only [Bool.or_eq_true, Bool.and_eq_true, beq_iff_eq] at g
    rcases g with g | ⟨g1, g2, g3⟩
    · obtain ⟨i, j, h1, h2, h3, h4⟩ := h.1 g
      exact ⟨i, j, h1, h2, by omega, h4⟩
    · exact ⟨k, k + 1 + m, by omega, hm, Or.inr ⟨rfl, by omega⟩, g1, g2, g3⟩
  · rintro ⟨i, j, h1, h2, h3, h4, h5, h6⟩
    simp only [Bool.or_eq_true, Bool.and_eq_true, beq_iff_eq]
    by_cases e : i = k ∧ j = k + 1 + m
    · obtain ⟨rfl, rfl⟩ := e
      exact Or.inr ⟨h4, h5, h6⟩
    · exact Or.inl (h.2 ⟨i, j, h1, h2, by omega, h4, h5, h6⟩)
theorem FdP.next {K T : Nat → Int} {S : Nat → ByteArray} {n x y k : Nat} {fd : Bool} (h : FdP K T S n x y fd k (n - (k + 1))) : FdP K T S n x y fd (k + 1) 0 := by
  refine h.trans ⟨?_, ?_⟩
  · rintro ⟨i, j, h1, h2, h3, h4⟩
    exact ⟨i, j, h1, h2, by omega, h4⟩
  · rintro ⟨i, j, h1, h2, h3, h4⟩
    exact ⟨i, j, h1, h2, by omega, h4⟩
theorem FdP.done {K T : Nat → Int} {S : Nat → ByteArray} {n x y : Nat} {fd : Bool} (h : FdP K T S n x y fd n 0) : fd = edB K T S n x y := by
  rw [Bool.eq_iff_iff, edB_iff]
  refine h.trans ⟨?_, ?_⟩
  · rintro ⟨i, j, h1, h2, _, h4⟩; exact ⟨i, j, h1, h2, h4⟩
  · rintro ⟨i, j, h1, h2, h4⟩; exact ⟨i, j, h1, h2, by omega, h4⟩
theorem take_snoc {l : List Nat} {p : Nat} (h : p < l.length) : l.take (p + 1) = l.take p ++ [l.getD p 0] := by
  rw [List.take_add_one]; simp [h]
/-- The pairs that two loops over a list have told. -/
def seL (e : Nat → Nat → Bool) (X : List Nat) (p r : Nat) : List (Int × Int) := tabL e (X.take p) X ++ rowL e (X.getD p 0) (X.take r)
theorem seL_len {e : Nat → Nat → Bool} {X : List Nat} {p r : Nat} (hX : X.length ≤ 9) : (seL e X p r).length ≤ 1000 := by
  have a := tabL_len e X (X.take p)
  have b := rowL_len e (X.getD p 0) (X.take r)
  have c : (X.take p).length ≤ 9 := by simp; omega
  have d : (X.take r).length ≤ 9 := by simp; omega
  have m := Nat.mul_le_mul c hX
  simp only [seL, List.length_append]
  omega
theorem seL_yes {e : Nat → Nat → Bool} {X : List Nat} {p r : Nat} (hr : r < X.length) (h : e (X.getD p 0) (X.getD r 0) = true) : seL e X p (r + 1) = seL e X p r ++ [(((X.getD p 0 : Nat) : Int), ((X.getD r 0 : Nat) : Int))] := by
  simp only [seL, take_snoc hr, rowL_yes h, List.append_assoc]
theorem seL_no {e : Nat → Nat → Bool} {X : List Nat} {p r : Nat} (hr : r < X.length) (h : e (X.getD p 0) (X.getD r 0) = false) : seL e X p (r + 1) = seL e X p r := by
  simp only [seL, take_snoc hr, rowL_no h]
theorem seL_start (e : Nat → Nat → Bool) (X : List Nat) (p : Nat) : seL e X p 0 = tabL e (X.take p) X := by simp [seL, rowL]
theorem seL_end (e : Nat → Nat → Bool) (X : List Nat) (p : Nat) (hp : p < X.length) : seL e X p X.length = tabL e (X.take (p + 1)) X := by
  rw [take_snoc hp, tabL_snoc, seL, List.take_length]
theorem seL_all {K T : Nat → Int} {S : Nat → ByteArray} {n : Nat} (hg : goodP (okO K T S) K T n) : tabL (edB K T S n) (txL T n 9) (txL T n 9) = cfT K T S n := by
  unfold txL cfT
  refine tabL_filter (fun x hx y => ?_) (fun x y hy => ?_) _ _
  · cases e : edB K T S n x y
    · rfl
    · obtain ⟨i, j, h1, h2, h3, _⟩ := edB_iff.1 e
      obtain ⟨q, q1, q2, _⟩ := op_t (show opB (K i) (T i) (S i) = true from (hg.2 i (by omega)).1)
      rw [hasT_yes (by omega) (by omega) h3] at hx; cases hx
  · cases e : edB K T S n x y
    · rfl
    · obtain ⟨i, j, h1, h2, _, h3, _⟩ := edB_iff.1 e
      obtain ⟨q, q1, q2, _⟩ := op_t (show opB (K j) (T j) (S j) = true from (hg.2 j h2).1)
      rw [hasT_yes (by omega) h2 h3] at hy; cases hy
theorem SRow.grew {w w' : World} {B C : Nat} {a : Option Addr} {n c : Nat} {F : Nat → Nat → Value} {row : Option Nat} (h : SRow w B C a n c F) (hg : w.grownBy w' row) (hne : ∀ g, row = some g → g < B ∨ C ≤ g) : SRow w' B C a n c F := by
  refine ⟨?_, Nat.le_trans h.2 hg.size⟩
  rcases h.1 with h | ⟨g, e, hB, hC, hgl, hE, hR⟩
  · exact Or.inl h
  · have hk := hg.block g hgl (fun q => by have := hne g q.symm; omega)
    exact Or.inr ⟨g, e, hB, hC, Nat.lt_of_lt_of_le hgl hg.size, hE.same hk, hR.same hk⟩
def ConfPost (L : List (Int × Int)) (w : World) (r : Ending) (w' : World) : Prop :=
  (∃ a cap, r = .returned (.slice a L.length cap) ∧ PRow w' w.heap.size w'.heap.size a L.length (pP L) (pQ L)) ∧ Below w.heap.size w w'
theorem xF_at {X : List Nat} {p x : Nat} (h : x = X.getD p 0) : xF X p = (x : Int) := by rw [h]; rfl

set_option maxRecDepth 100000 in
set_option maxHeartbeats 16000000 in
theorem l3Conflicts_any (a : Option Addr) (n cap : Nat) (K T : Nat → Int) (S : Nat → ByteArray) (w : World) (hn : n ≤ 1048576) (hcap : n ≤ cap) (hg : goodP (okO K T S) K T n) (hs : Sl w a n 3 (opF K T S)) :
    Calls Try.prog 92 #[.slice a n cap] w (ConfPost (cfT K T S n) w) := by
  have HS : Hid (Sl w a n 3 (opF K T S)) := hs
  have HG : Hid (goodP (okO K T S) K T n) := hg
  clear hs hg
  obtain ⟨i0, hi0, hz0, hz1, hz2⟩ := info_parts info_pair
  go_enter Try.func92, Try.ntmps92
  go_wp2_with fail
  refine (l3Txns_any _ _ _ K T S _ hn HS.out).mono ?_
  rintro r w1 ⟨⟨a1, cap1, rfl, hX1⟩, hb1⟩
  obtain ⟨X, hX⟩ : ∃ X, X = txL T n 9 := ⟨_, rfl⟩
  have HX : Hid (X = txL T n 9) := hX
  have hX9 : X.length ≤ 9 := by rw [hX]; exact txL_len T n 9
  obtain ⟨e, he⟩ : ∃ e, e = edB K T S n := ⟨_, rfl⟩
  have HE : Hid (e = edB K T S n) := he
  rw [← hX] at hX1
  have HB1 : Hid (Below w.heap.size w w1 ∧ SRow w1 w.heap.size w1.heap.size a1 X.length 1 (intF (xF X))) := ⟨hb1, hX1⟩
  have hzw : w.heap.size ≤ w1.heap.size := hb1.size
  rw [← hX]
  clear hb1 hX1 hX he
  go_wp2
  go_loopw [16, 3] (fun x v wr => ∃ p : Nat, p ≤ X.length ∧ x = .int .i64 p ∧ wr.ownsRow w1.heap.size 107 2 v (tabL e (X.take p) X).length (cellsP (tabL e (X.take p) X)) ∧ SRow wr w.heap.size w1.heap.size a1 X.length 1 (intF (xF X)) ∧ Below w.heap.size w wr) (fun x _ _ => X.length - (intOf x).toNat)
  case atStart => exact ⟨0, Nat.zero_le _, rfl, World.ownsRow_nil _ _ _ _, HB1.out.2, HB1.out.1⟩
  case round =>
    obtain ⟨p, hp, rfl, hown, hX1, hBr⟩ := hrel
    clear HB1
    obtain ⟨wo, hwo⟩ : ∃ x, x = wr := ⟨wr, rfl⟩
    subst hwo
    by_cases hlt : p < X.length
    · have hlt' : (p : Int) < (X.length : Int) := by omega
      obtain ⟨x, hx⟩ : ∃ x, x = X.getD p 0 := ⟨_, rfl⟩
      have Hx : Hid (x = X.getD p 0) := hx
      have HH : Hid (wo.ownsRow w1.heap.size 107 2 u3 (seL e X p 0).length (cellsP (seL e X p 0)) ∧ SRow wo w.heap.size w1.heap.size a1 X.length 1 (intF (xF X)) ∧ Below w.heap.size w wo) := by rw [seL_start]; exact ⟨hown, hX1, hBr⟩
      rcases hX1.sl with h | ⟨b1, off1, rfl, hbs1, hE1⟩
      · omega
      have c1 := int_cell hE1 hlt
      rw [xF_at hx] at c1
      clear hown hX1 hBr hE1 hx
      go_wp2_with fail
      refine (l3Txns_any _ _ _ K T S _ hn (HS.out.kept HH.out.2.2)).mono ?_
      rintro r w2 ⟨⟨a2, cap2, rfl, hX2⟩, hb2⟩
      rw [← HX.out] at hX2
      rw [← HX.out]
      have HB2 : Hid (Below wo.heap.size wo w2 ∧ SRow w2 wo.heap.size w2.heap.size a2 X.length 1 (intF (xF X))) := ⟨hb2, hX2⟩
      have hzo : wo.heap.size ≤ w2.heap.size := hb2.size
      have hz1o : w1.heap.size ≤ wo.heap.size := HH.out.2.1.2
      clear hb2 hX2 c1
      go_wp2
      go_loopw [23, 3] (fun x v wr => ∃ r : Nat, r ≤ X.length ∧ x = .int .i64 r ∧ wr.ownsRow w1.heap.size 107 2 v (seL e X p r).length (cellsP (seL e X p r)) ∧ SRow wr w.heap.size w1.heap.size (some ⟨b1, off1, none⟩) X.length 1 (intF (xF X)) ∧ SRow wr wo.heap.size w2.heap.size a2 X.length 1 (intF (xF X)) ∧ (∀ g, v.ownBlock = some g → g < wo.heap.size ∨ w2.heap.size ≤ g) ∧ Below w.heap.size w wr) (fun x _ _ => X.length - (intOf x).toNat)
      case atStart => exact ⟨0, Nat.zero_le _, rfl, own_keep HH.out.1 HB2.out.1, HH.out.2.1.next HB2.out.1, HB2.out.2, fun g hg => Or.inl (HH.out.1.lt g hg).2, below_next HH.out.2.2 HB2.out.1⟩
      case round =>
        obtain ⟨r, hr, rfl, hown, hX1, hX2, hap, hBi⟩ := hrel
        clear HH HB2
        obtain ⟨w3, hw3⟩ : ∃ x, x = wr := ⟨wr, rfl⟩
        subst hw3
        by_cases hrl : r < X.length
        · have hrl' : (r : Int) < (X.length : Int) := by omega
          obtain ⟨y, hy⟩ : ∃ y, y = X.getD r 0 := ⟨_, rfl⟩
          have Hy : Hid (y = X.getD r 0) := hy
          have HH : Hid (w3.ownsRow w1.heap.size 107 2 u3 (seL e X p r).length (cellsP (seL e X p r)) ∧ SRow w3 w.heap.size w1.heap.size (some ⟨b1, off1, none⟩) X.length 1 (intF (xF X)) ∧ SRow w3 wo.heap.size w2.heap.size a2 X.length 1 (intF (xF X)) ∧ (∀ g, u3.ownBlock = some g → g < wo.heap.size ∨ w2.heap.size ≤ g) ∧ Below w.heap.size w w3) := ⟨hown, hX1, hX2, hap, hBi⟩
          rcases hX2.sl with h | ⟨b2, off2, rfl, hbs2, hE2⟩
          · omega
          have c2 := int_cell hE2 hrl
          rw [xF_at hy] at c2
          clear hown hX1 hX2 hap hBi hE2 hy
          go_wp2
          go_loopw [29, 8] (fun i fv wr => ∃ (k : Nat) (fd : Bool), k ≤ n ∧ i = .int .i64 k ∧ fv = .bool fd ∧ FdP K T S n x y fd k 0 ∧ Below w3.heap.size w3 wr) (fun i _ _ => n - (intOf i).toNat)
          case atStart => exact ⟨0, false, Nat.zero_le _, rfl, rfl, FdP.zero _ _ _ _ _ _, Below.refl _ _⟩
          case round =>
            obtain ⟨k, fd, hk, rfl, rfl, hF, hB3⟩ := hrel
            obtain ⟨w4, hw4⟩ : ∃ x, x = wr := ⟨wr, rfl⟩
            subst hw4
            clear c2
            by_cases hkl : k < n
            · have hkl' : (k : Int) < (n : Int) := by omega
              have hkc : (k : Int) + 1 ≤ (cap : Int) := by omega
              rcases HS.out.kept (below_next HH.out.2.2.2.2 hB3) with h | ⟨b, off, rfl, hbs, hE⟩
              · omega
              obtain ⟨c0, c1, c2⟩ := op_cells hE hkl
              have HJ : Hid (FdP K T S n x y fd k 0 ∧ Below w3.heap.size w3 w4 ∧ Elems w4 b off n 3 (opF K T S)) := ⟨hF, hB3, hE⟩
              have hz34 : w3.heap.size ≤ w4.heap.size := hB3.size
              clear hF hB3 hE
              go_wp2
              · subst h
                go_loopw [39, 8] (fun j fv wr => ∃ (m : Nat) (fd : Bool), m ≤ n - (k + 1) ∧ j = .int .i64 m ∧ fv = .bool fd ∧ FdP K T S n x y fd k m ∧ Below w3.heap.size w3 wr) (fun j _ _ => n - (k + 1) - (intOf j).toNat)
                case atStart => exact ⟨0, fd, Nat.zero_le _, rfl, rfl, HJ.out.1, HJ.out.2.1.alloc hz34 _⟩
                case round =>
                  obtain ⟨m, fd, hm, rfl, rfl, hF, hB4⟩ := hrel
                  clear c0 c1 c2
                  by_cases hml : m < n - (k + 1)
                  · exfalso; omega
                  · have hm2 : m = n - (k + 1) := by omega
                    subst hm2
                    have HK : Hid (FdP K T S n x y fd (k + 1) 0 ∧ Below w3.heap.size w3 wr) := ⟨hF.next, hB4⟩
                    clear hF hB4 HJ
                    go_wp2
                    go_roundw
                    case rel => exact ⟨k + 1, fd, by omega, by go_num, rfl, HK.out.1, HK.out.2⟩
                    case measure => simp [intOf]; omega
              · go_loopw [39, 8] (fun j fv wr => ∃ (m : Nat) (fd : Bool), m ≤ n - (k + 1) ∧ j = .int .i64 m ∧ fv = .bool fd ∧ FdP K T S n x y fd k m ∧ Op1 wr w4.heap.size (K k) (T k) (S k) ∧ Below w4.heap.size w4 wr) (fun j _ _ => n - (k + 1) - (intOf j).toNat)
                case atStart => exact ⟨0, fd, Nat.zero_le _, rfl, rfl, HJ.out.1, Op1.new _ _ _ _ _, Go.Joins.below_alloc1 _ _⟩
                case round =>
                  obtain ⟨m, fd, hm, rfl, rfl, hF, hev, hB4⟩ := hrel
                  clear c0 c1 c2
                  by_cases hml : m < n - (k + 1)
                  · have hml' : (m : Int) < ((n - (k + 1) : Nat) : Int) := by omega
                    obtain ⟨d0, d1, d2⟩ := op_cells (HJ.out.2.2.below hB4 hbs) (show k + 1 + m < n by omega)
                    rw [off_at] at d0 d1 d2
                    have HE1 : Hid (Op1 wr w4.heap.size (K k) (T k) (S k)) := hev
                    obtain ⟨g0, g1, g2, hgl⟩ := hev
                    have hzi : w4.heap.size ≤ wr.heap.size := hB4.size
                    have HF : Hid (FdP K T S n x y (fd || (T k == (x : Int) && (T (k + 1 + m) == (y : Int) && clN K T S k (k + 1 + m)))) k (m + 1) ∧ Below w4.heap.size w4 wr) := ⟨hF.step (by omega), hB4⟩
                    clear hF hB4
                    cases fd
                    case true =>
                      go_wp2
                      go_roundw
                      case rel => exact ⟨m + 1, true, by omega, by go_num, rfl, HF.out.1, HE1.out.next (Go.Joins.below_alloc1 _ _), HF.out.2.alloc hzi _⟩
                      case measure => simp [intOf]; omega
                    cases h1 : (T k == (x : Int))
                    · have HF1 : Hid (FdP K T S n x y false k (m + 1)) := by have := HF.out.1; rw [h1] at this; exact this
                      go_wp2
                      go_roundw
                      case rel => exact ⟨m + 1, false, by omega, by go_num, rfl, HF1.out, HE1.out.next (Go.Joins.below_alloc1 _ _), HF.out.2.alloc hzi _⟩
                      case measure => simp [intOf]; omega
                    cases h2 : (T (k + 1 + m) == (y : Int))
                    · have HF1 : Hid (FdP K T S n x y false k (m + 1)) := by have := HF.out.1; rw [h1, h2] at this; exact this
                      go_wp2
                      go_roundw
                      case rel => exact ⟨m + 1, false, by omega, by go_num, rfl, HF1.out, HE1.out.next (Go.Joins.below_alloc1 _ _), HF.out.2.alloc hzi _⟩
                      case measure => simp [intOf]; omega
                    obtain ⟨cb, hcb⟩ : ∃ cb, cb = clS (K k) (T k) (S k) (K (k + 1 + m)) (T (k + 1 + m)) (S (k + 1 + m)) := ⟨_, rfl⟩
                    have HF1 : Hid (FdP K T S n x y cb k (m + 1)) := by
                      have := HF.out.1
                      rw [h1, h2, show clN K T S k (k + 1 + m) = cb from (hcb.trans (cl_same (HG.out.2 k hkl).1 (HG.out.2 (k + 1 + m) (by omega)).1)).symm] at this
                      exact this
                    have HK : Hid (∀ W : World, Calls Try.prog 107 #[.agg #[.int .i64 (K k), .int .i64 (T k), .string (S k)], .agg #[.int .i64 (K (k + 1 + m)), .int .i64 (T (k + 1 + m)), .string (S (k + 1 + m))]] W fun r w' => r = .returned (.bool cb) ∧ Below W.heap.size W w') := fun W => hcb ▸ l3Clash_any _ _ _ _ _ _ W
                    clear hcb
                    go_wp2_with fail
                    refine (HK.out _).mono ?_
                    rintro r w5 ⟨rfl, hb5⟩
                    have HB5 : Hid (Below wr.heap.size wr w5) := below_next (Go.Joins.below_alloc1 _ _) hb5
                    clear hb5 d0 d1 d2 g0 g1 g2
                    go_wp2
                    go_roundw
                    case rel => exact ⟨m + 1, cb, by omega, by go_num, rfl, HF1.out, HE1.out.next HB5.out, below_next HF.out.2 HB5.out⟩
                    case measure => simp [intOf]; omega
                  · have hm2 : m = n - (k + 1) := by omega
                    subst hm2
                    have HK : Hid (FdP K T S n x y fd (k + 1) 0 ∧ Below w3.heap.size w3 wr) := ⟨hF.next, below_next HJ.out.2.1 hB4⟩
                    clear hF hB4 hev HJ
                    go_wp2
                    go_roundw
                    case rel => exact ⟨k + 1, fd, by omega, by go_num, rfl, HK.out.1, HK.out.2⟩
                    case measure => simp [intOf]; omega
            · have hkn : k = n := by omega
              subst hkn
              have hfe : Hid (fd = e x y) := by show fd = _; rw [HE.out]; exact hF.done
              have hLk : (seL e X p r).length ≤ 1000 := seL_len hX9
              have HW : Hid (w4.ownsRow w1.heap.size 107 2 u3 (seL e X p r).length (cellsP (seL e X p r)) ∧ SRow w4 w.heap.size w1.heap.size (some ⟨b1, off1, none⟩) X.length 1 (intF (xF X)) ∧ SRow w4 wo.heap.size w2.heap.size (some ⟨b2, off2, none⟩) X.length 1 (intF (xF X)) ∧ (∀ g, u3.ownBlock = some g → g < wo.heap.size ∨ w2.heap.size ≤ g) ∧ Below w.heap.size w w4) := ⟨own_keep HH.out.1 hB3, HH.out.2.1.next hB3, HH.out.2.2.1.next hB3, HH.out.2.2.2.1, below_next HH.out.2.2.2.2 hB3⟩
              clear HH hF hB3
              cases fd
              · have HL : Hid (seL e X p (r + 1) = seL e X p r) := seL_no hrl (by rw [← Hx.out, ← Hy.out]; exact hfe.out.symm)
                go_wp2
                go_roundw
                case rel => exact ⟨r + 1, by omega, by go_num, by rw [HL.out]; exact HW.out.1, HW.out.2.1, HW.out.2.2.1, HW.out.2.2.2.1, HW.out.2.2.2.2⟩
                case measure => simp [intOf]; omega
              · have HL : Hid (seL e X p (r + 1) = seL e X p r ++ [((x : Int), (y : Int))]) := by show _ = _; rw [Hx.out, Hy.out]; exact seL_yes hrl (by rw [← Hx.out, ← Hy.out]; exact hfe.out.symm)
                obtain ⟨L, hL⟩ : ∃ L, L = seL e X p r := ⟨_, rfl⟩
                rw [← hL] at HL hLk HW
                have HNW : Hid (∀ j u, [Value.int .i64 (x : Int), .int .i64 (y : Int)][j]? = some u → (w4.alloc (.cells #[.int .i64 (x : Int), .int .i64 (y : Int)] 107)).cell? ((⟨w4.heap.size, 0, none⟩ : Addr).add j) = some u) := cells_new w4 [.int .i64 (x : Int), .int .i64 (y : Int)] 107
                have hz14 : w1.heap.size ≤ w4.heap.size := HW.out.2.1.2
                have hz24 : w2.heap.size ≤ w4.heap.size := HW.out.2.2.1.2
                clear hL hfe
                go_wp2_with (first
                  | (at_builtin; refine wpList_append_own_at _ rfl (.tmp 64) (.tmp 68) 40 rfl w1.heap.size 107 i0 (.agg #[.int .i64 0, .int .i64 0]) 2 16 Try.underlying40 hi0 hz0 hz1 hz2 rfl (by decide) u3 L.length (cellsP L) rfl (World.ownsRow.alloc HW.out.1 _) ⟨w4.heap.size, 0, none⟩ 1 1 [.int .i64 (x : Int), .int .i64 (y : Int)] rfl rfl HNW.out (by intro u hu; simp at hu; rcases hu with rfl | rfl <;> rfl) (by unfold maxLen; omega) (by omega) (by simp <;> omega) ?_; intro v6 w6 hown hgrow hnil hwhere)
                  | go_in)
                have HFF : Hid (w6.ownsRow w1.heap.size 107 2 v6 (seL e X p (r + 1)).length (cellsP (seL e X p (r + 1))) ∧ SRow w6 w.heap.size w1.heap.size (some ⟨b1, off1, none⟩) X.length 1 (intF (xF X)) ∧ SRow w6 wo.heap.size w2.heap.size (some ⟨b2, off2, none⟩) X.length 1 (intF (xF X)) ∧ (∀ g, v6.ownBlock = some g → g < wo.heap.size ∨ w2.heap.size ≤ g) ∧ Below w.heap.size w w6) := by
                  have ha4 := Go.Joins.below_alloc1 w4 (.cells #[.int .i64 (x : Int), .int .i64 (y : Int)] 107)
                  refine ⟨?_, (HW.out.2.1.next ha4).grew hgrow (fun g hg => Or.inr (HW.out.1.lt g hg).1), (HW.out.2.2.1.next ha4).grew hgrow HW.out.2.2.2.1, ?_, (HW.out.2.2.2.2.alloc HW.out.2.2.2.2.size _).grown hgrow (by simp; omega) (fun j hj => Nat.le_trans hzw (HW.out.1.lt j hj).1)⟩
                  · rw [HL.out, cellsP_snoc, List.length_append]; exact hown
                  · intro g hg
                    rcases hwhere with q | q
                    · exact HW.out.2.2.2.1 g (q ▸ hg)
                    · rw [q] at hg; cases hg; right; simp; omega
                clear hown hgrow hnil hwhere
                go_wp2
                go_roundw
                case rel => exact ⟨r + 1, by omega, by go_num, HFF.out.1, HFF.out.2.1, HFF.out.2.2.1, HFF.out.2.2.2.1, HFF.out.2.2.2.2⟩
                case measure => simp [intOf]; omega
        · have hrX : r = X.length := by omega
          subst hrX
          have HH : Hid (w3.ownsRow w1.heap.size 107 2 u3 (tabL e (X.take (p + 1)) X).length (cellsP (tabL e (X.take (p + 1)) X)) ∧ SRow w3 w.heap.size w1.heap.size (some ⟨b1, off1, none⟩) X.length 1 (intF (xF X)) ∧ Below w.heap.size w w3) := by rw [← seL_end e X p hlt]; exact ⟨hown, hX1, hBi⟩
          clear hown hX1 hX2 hap hBi
          go_wp2
          go_roundw
          case rel => exact ⟨p + 1, by omega, by go_num, HH.out.1, HH.out.2.1, HH.out.2.2⟩
          case measure => simp [intOf]; omega
    · have hpX : p = X.length := by omega
      obtain ⟨L, hL⟩ : ∃ L, L = tabL e (X.take p) X := ⟨_, rfl⟩
      have HL : Hid (L = cfT K T S n) := by show _ = _; rw [hL, hpX, List.take_length, HE.out, HX.out]; exact seL_all HG.out
      rw [← hL] at hown
      obtain ⟨a4, cap4, rfl, hx⟩ := PRow.of hown
      have HF : Hid (ConfPost (cfT K T S n) w (.returned (.slice a4 L.length cap4)) wo) := by rw [← HL.out]; exact ⟨⟨a4, cap4, rfl, SRow.wide hx hzw⟩, hBr⟩
      clear hown hBr hx hX1 hL
      go_wp2
      go_ret
      exact HF.out

set_option maxRecDepth 100000 in
set_option maxHeartbeats 4000000 in
theorem specConflictsOf_any (a : Option Addr) (n cap : Nat) (K T : Nat → Int) (S : Nat → ByteArray) (w : World) (hn : n ≤ 1048576) (hcap : n ≤ cap) (hS : ∀ i, i < n → (S i).size ≤ maxLen) (hs : Sl w a n 3 (opF K T S)) :
    Calls Try.prog 49 #[.slice a n cap] w (PairPost (cfL K T S n) (goodO (okO K T S) K T n) w) := by
  have HS : Hid (Sl w a n 3 (opF K T S) ∧ ∀ i, i < n → (S i).size ≤ maxLen) := ⟨hs, hS⟩
  clear hs hS
  go_enter Try.func49, Try.ntmps49
  go_wp2_with fail
  refine (specGoodOps_any _ _ _ K T S _ hn hcap HS.out.2 HS.out.1).mono ?_
  rintro r w1 ⟨rfl, hb1⟩
  have HB1 : Hid (Below w.heap.size w w1) := hb1
  clear hb1
  cases hg : goodO (okO K T S) K T n
  · have HN : Hid (cfL K T S n = []) := by show cfL K T S n = []; simp [cfL, hg]
    have HG0 : Hid (goodO (okO K T S) K T n = false) := hg
    go_wp2
    exact bodyPost_ret (v := .tuple #[.slice none 0 0, .bool false]) (by simp [results, Try.results49, go_sem]) rfl (pair_no HN.out HG0.out HB1.out)
  obtain ⟨L, hL⟩ : ∃ L, L = cfT K T S n := ⟨_, rfl⟩
  have HL : Hid (cfL K T S n = L) := by show cfL K T S n = L; rw [hL]; simp [cfL, hg]
  have HG1 : Hid (goodO (okO K T S) K T n = true) := hg
  have HGP : Hid (goodP (okO K T S) K T n) := goodO_out hg
  have hLe := hL.symm
  clear hg hL
  go_wp2_with fail
  refine (l3Conflicts_any _ _ _ K T S _ hn hcap HGP.out (HS.out.1.kept HB1.out)).mono ?_
  rw [hLe]
  rintro r w2 ⟨⟨a4, cap4, rfl, hx⟩, hb2⟩
  have HF : Hid (PairPost (cfL K T S n) (goodO (okO K T S) K T n) w (.returned (.tuple #[.slice a4 L.length cap4, .bool true])) w2) := by rw [HL.out, HG1.out]; exact ⟨⟨a4, cap4, rfl, SRow.wide hx HB1.out.size⟩, below_next HB1.out hb2⟩
  clear hx hb2 hLe
  go_wp2
  exact bodyPost_ret (v := .tuple #[.slice a4 L.length cap4, .bool true]) (by simp [results, Try.results49, go_sem]) rfl HF.out
end Go.Proofs.Ythbpjmnlgfahmaa
