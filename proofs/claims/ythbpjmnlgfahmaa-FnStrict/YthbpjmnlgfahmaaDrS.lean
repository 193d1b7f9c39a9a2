/- The draw of ops and an order: DrawSerialOps. -/
import Derived.Test.YthbpjmnlgfahmaaDrO
import Derived.Test.YthbpjmnlgfahmaaTxO
import Derived.Deep.QuietTactic
import Derived.BigQuiet
namespace Go.Proofs.Ythbpjmnlgfahmaa
open Go.RowKit
set_option linter.unusedVariables false

/-- A list of m numbers that may be written and grown. -/
def NuIn (w : World) (base : Nat) (v : Value) (m : Nat) : Prop := ∃ (O : Nat → Int), w.ownsRow base 3 1 v m (cellsL (intF O) 1 m)
/-- What the loop holds: the ops, the order, the cursor. -/
def SeH (W w0 : World) (g : Nat) (a : Option Addr) (n cap : Nat) (X : Nat → Int) (t : Nat) (B C : Nat) (a4 : Option Addr) (k : Nat) (K T : Nat → Int) (S : Nat → ByteArray) (v : Value) (m : Nat) : Prop :=
  SRow W B C a4 k 3 (opF K T S) ∧ NuIn W C v m ∧ Drew g a n cap X t w0 W ∧ C ≤ W.heap.size
section
variable {W W' w0 : World} {g : Nat} {a : Option Addr} {n cap : Nat} {X : Nat → Int} {t t' B C : Nat} {a4 : Option Addr} {k : Nat} {K T : Nat → Int} {S : Nat → ByteArray} {v : Value} {m : Nat}
theorem SeH.draw (h : SeH W w0 g a n cap X t B C a4 k K T S v m) (hd : Drew g a n cap X t' W W') (hB : g < B) (hC : g < C) : SeH W' w0 g a n cap X t' B C a4 k K T S v m := by
  obtain ⟨h1, ⟨O, ho⟩, h3⟩ := h
  exact ⟨h1.trn hd.2 (Or.inr hB), ⟨O, own_trn ho hd.2 hC⟩, h3.1.trans hd, Nat.le_trans h3.2 hd.2.2.2.2.1⟩
theorem SeH.up (h : SeH W w0 g a n cap X t B C a4 k K T S v m) (ht : t ≤ t') : SeH W w0 g a n cap X t' B C a4 k K T S v m := ⟨h.1, h.2.1, h.2.2.1.up ht, h.2.2.2⟩
theorem SRow.out' {w : World} {B C : Nat} {a : Option Addr} {n c : Nat} {F : Nat → Nat → Value} {g q : Nat} (h : SRow w B C a n c F) (hg : C ≤ g) (v : Value) : SRow (w.setCell ⟨g, q, none⟩ v) B C a n c F :=
  h.trn ((Trn.refl g (g + 1) w).set (p := ⟨g, q, none⟩) (Nat.le_refl _) (by simp) v) (Or.inl hg)
theorem cells_ints {xs : List Value} {m : Nat} (hl : xs.length = m) (hx : ∀ i, i < m → ∃ z, xs[i]? = some (.int .i64 z)) : ∃ O : Nat → Int, xs = cellsL (intF O) 1 m := by
  refine ⟨fun i => if h : i < m then (hx i h).choose else 0, ?_⟩
  apply List.ext_getElem?
  intro i
  rcases Nat.lt_or_ge i m with h | h
  · have e := cellsL_at (intF fun i => if h : i < m then (hx i h).choose else 0) 1 m i 0 h (by omega)
    rw [Nat.mul_one, Nat.add_zero] at e
    rw [e, (hx i h).choose_spec]
    simp [intF, h]
  · rw [List.getElem?_eq_none (by omega), List.getElem?_eq_none (by rw [cellsL_len]; omega)]
theorem SeH.put {b c q : Nat} (h : SeH W w0 g a n cap X t B C a4 k K T S (.slice (some ⟨b, 0, none⟩) m c) m) (hq : q < m) (hg : g < w0.heap.size) (hC : w0.heap.size ≤ C) (z : Int) : SeH (W.setCell ⟨b, q, none⟩ (.int .i64 z)) w0 g a n cap X t B C a4 k K T S (.slice (some ⟨b, 0, none⟩) m c) m := by
  obtain ⟨h1, ⟨O, ho⟩, h3⟩ := h
  have hb := (ho.lt b rfl).1
  have hs := (World.ownsRow.stored ho q (.int .i64 z)).1
  obtain ⟨O', e⟩ : ∃ O' : Nat → Int, (cellsL (intF O) 1 m).set q (.int .i64 z) = cellsL (intF O') 1 m := by
    refine cells_ints (by rw [List.length_set, cellsL_len]; omega) (fun i hi => ?_)
    by_cases hiq : q = i
    · subst hiq
      exact ⟨z, by rw [List.getElem?_set_self (by rw [cellsL_len]; omega)]⟩
    · have e := cellsL_at (intF O) 1 m i 0 hi (by omega)
      rw [Nat.mul_one, Nat.add_zero] at e
      exact ⟨O i, by rw [List.getElem?_set_ne hiq, e]; rfl⟩
  rw [e] at hs
  exact ⟨h1.out' hb _, ⟨O', hs⟩, h3.1.out hg (by omega) _, by simpa using h3.2⟩
theorem SeH.cell {b c q : Nat} (h : SeH W w0 g a n cap X t B C a4 k K T S (.slice (some ⟨b, 0, none⟩) m c) m) (hq : q < m) : (∃ z, W.cell? ⟨b, q, none⟩ = some (.int .i64 z)) ∧ W.frozen? ⟨b, q, none⟩ = false ∧ b < W.heap.size := by
  obtain ⟨h1, ⟨O, ho⟩, h3⟩ := h
  refine ⟨⟨O q, ?_⟩, ho.frozenAt q, (ho.lt b rfl).2⟩
  rw [World.ownsRow.cellAt ho q (by omega)]
  have e := cellsL_at (intF O) 1 m q 0 hq (by omega)
  rw [Nat.mul_one, Nat.add_zero] at e
  rw [e]; rfl
end
def SerDrew (w : World) (r : Ending) (w' : World) : Prop := ∃ (a4 : Option Addr) (k cap4 : Nat) (K T : Nat → Int) (S : Nat → ByteArray) (a5 : Option Addr) (m cap5 : Nat) (L : Nat → Int),
  k ≤ 200 ∧ k ≤ cap4 ∧ m ≤ 20 ∧ m ≤ cap5 ∧ r = .returned (.tuple #[.slice a4 k cap4, .slice a5 m cap5]) ∧ Sl w' a4 k 3 (opF K T S) ∧ (∀ i, i < k → (S i).size ≤ 21) ∧ Sl w' a5 m 1 (intF L) ∧ Below w.heap.size w w'

set_option maxRecDepth 100000 in
set_option maxHeartbeats 8000000 in
theorem drawSerial_any (a : Option Addr) (n cap : Nat) (X : Nat → Int) (w : World) (hn : n ≤ 9223372036854775807) (hs : Sl w a n 1 (byF X)) (hX : ∀ i, i < n → 0 ≤ X i ∧ X i ≤ 255) :
    Calls Try.prog 31 #[.slice a n cap] w (SerDrew w) := by
  have H0 : Hid (Cur (w.alloc (.cells #[.slice a n cap, .int .i64 0, .int .u64 0] 84)) w.heap.size a n cap X 0 ∧ Below w.heap.size w (w.alloc (.cells #[.slice a n cap, .int .i64 0, .int .u64 0] 84))) := ⟨Cur.new _ hs hn hX, Go.Joins.below_alloc1 _ _⟩
  clear hs hX
  obtain ⟨i0, hi0, hz0, hz1, hz2⟩ := info_parts info_int'
  obtain ⟨w0, hw0⟩ : ∃ w0, w0 = w.alloc (.cells #[.slice a n cap, .int .i64 0, .int .u64 0] 84) := ⟨_, rfl⟩
  have hg0 : w.heap.size < w0.heap.size := by rw [hw0]; simp
  go_enter Try.func31, Try.ntmps31
  go_wp2_with fail
  rw [← hw0] at H0 ⊢
  clear hw0
  refine (ops_any _ _ _ _ _ _ _ (by omega) H0.out.1).mono ?_
  rintro r w1 ⟨v, k, hk, rfl, ⟨K, T, S, ho, hS⟩, hd⟩
  obtain ⟨a4, cap4, rfl, hc4, hx⟩ := SRow.of ho
  have HS : Hid (SRow w1 w0.heap.size w1.heap.size a4 k 3 (opF K T S) ∧ (∀ i, i < k → (S i).size ≤ 21) ∧ Drew w.heap.size a n cap X 1000 w0 w1) := ⟨hx, hS, hd.up (by omega)⟩
  have hz01 : w0.heap.size ≤ w1.heap.size := hd.2.2.2.2.1
  clear ho hS hd hx
  go_wp2_with fail
  refine (l3Txns_own _ _ _ K T S _ (by omega) HS.out.1.sl).mono ?_
  rintro r w2 ⟨⟨v, rfl, ho⟩, hb⟩
  have HT : Hid (SeH w2 w0 w.heap.size a n cap X 1000 w0.heap.size w1.heap.size a4 k K T S v (txL T k 9).length) := ⟨HS.out.1.next hb, ⟨_, by rw [← xsV_L]; exact ho⟩, HS.out.2.2.next hb, hb.size⟩
  have hm9 : (txL T k 9).length ≤ 9 := txL_len T k 9
  generalize (txL T k 9).length = m at *
  clear ho hb
  obtain ⟨b, hb⟩ : ∃ b, b = w1.heap.size := ⟨_, rfl⟩
  obtain ⟨B, hB⟩ : ∃ B, B = w0.heap.size := ⟨_, rfl⟩
  obtain ⟨g, hg⟩ : ∃ g, g = w.heap.size := ⟨_, rfl⟩
  have HSS : Hid ((∀ i, i < k → (S i).size ≤ 21) ∧ Below w.heap.size w w0 ∧ w.heap.size = g) := ⟨HS.out.2.1, H0.out.2, hg.symm⟩
  have hw0B : w0.heap.size = B := hB.symm
  rw [← hb, ← hB, ← hg] at HT
  rw [← hg]
  have hgB : g < B := by omega
  have hBb : B ≤ b := by omega
  have hg0' : g < w0.heap.size := by omega
  have hb0 : w0.heap.size ≤ b := by omega
  clear hb hB hg HS H0 hg0 hz01
  obtain ⟨a5, cap5, rfl, hc5, _⟩ : ∃ a5 cap5, v = .slice a5 m cap5 ∧ m ≤ cap5 ∧ True := by
    obtain ⟨O, ho⟩ := HT.out.2.1
    obtain ⟨a5, cap5, e, h1, _⟩ := SRow.of ho
    exact ⟨a5, cap5, e, h1, trivial⟩
  have HP : Hid (∀ (W : World) (v : Value) (m : Nat), m ≤ 20 → SeH W w0 g a n cap X 1024 B b a4 k K T S v m → ∃ a5 cap5, v = .slice a5 m cap5 ∧ SerDrew w (.returned (.tuple #[.slice a4 k cap4, .slice a5 m cap5])) W) := by
    intro W v m hm h
    obtain ⟨h1, ⟨O, ho⟩, h3⟩ := h
    obtain ⟨a5, cap5, rfl, hc, hx⟩ := SRow.of ho
    exact ⟨a5, cap5, rfl, a4, k, cap4, K, T, S, a5, m, cap5, O, hk, hc4, hm, hc, rfl, h1.sl, HSS.out.1, hx.sl, HSS.out.2.1.trans (h3.1.2.below (by have := HSS.out.2.2; omega) (by have := HSS.out.2.2; omega))⟩
  clear HSS
  go_wp2
  go_loopw [7, 8, 9] (fun x y z wr => ∃ i : Nat, i ≤ m ∧ x = .int .i64 ((i : Int) - 1) ∧ SeH wr w0 g a n cap X (1000 + 2 * (m - i)) B b a4 k K T S (.slice a5 m cap5) m) (fun x _ _ _ => (intOf x + 1).toNat)
  case atStart => exact ⟨m, Nat.le_refl _, by go_num, by simpa using HT.out⟩
  case round =>
    obtain ⟨i, hi, rfl, hT⟩ := hrel
    clear HT
    obtain ⟨wi, hwi⟩ : ∃ x, x = wr := ⟨wr, rfl⟩
    subst hwi
    by_cases hi1 : 1 < i
    · have hik' : (0 : Int) < (i : Int) - 1 := by omega
      have HT : Hid (SeH wi w0 g a n cap X (1000 + 2 * (m - i)) B b a4 k K T S (.slice a5 m cap5) m) := hT
      obtain ⟨bb, rfl⟩ : ∃ bb, a5 = some ⟨bb, 0, none⟩ := by
        obtain ⟨_, ⟨O, ho⟩, _⟩ := hT
        obtain ⟨g', c', e, _⟩ := World.ownsRow.form ho (by omega)
        cases e; exact ⟨_, rfl⟩
      clear hT
      obtain ⟨j, rfl⟩ : ∃ j, i = j + 1 := ⟨i - 1, by omega⟩
      have ej : ((j + 1 : Nat) : Int) - 1 = (j : Int) := by omega
      rw [ej] at hik'
      rw [ej]
      have hjm : (j : Int) < (m : Int) := by omega
      go_wp2_with fail
      refine (pick_any _ _ _ _ _ _ _ _ (by omega) (by omega) HT.out.2.2.1.1).mono ?_
      rintro r w6 ⟨x6, hx6, rfl, hd⟩
      have H6 : Hid (SeH w6 w0 g a n cap X (1000 + 2 * (m - j)) B b a4 k K T S (.slice (some ⟨bb, 0, none⟩) m cap5) m) := (HT.out.draw hd hgB (by omega)).up (by omega)
      clear hd HT
      obtain ⟨y, hy, hyx⟩ : ∃ y : Nat, y < m ∧ x6 = (y : Int) := ⟨x6.toNat, by omega, by omega⟩
      subst hyx
      clear hx6
      have hyk : (y : Int) < (m : Int) := by omega
      obtain ⟨⟨zj, rj⟩, fj, hbl⟩ := H6.out.cell (q := j) (by omega)
      obtain ⟨⟨zy, ry⟩, fy, _⟩ := H6.out.cell (q := y) hy
      have H7 : Hid (SeH (w6.setCell ⟨bb, j, none⟩ (.int .i64 zy)) w0 g a n cap X (1000 + 2 * (m - j)) B b a4 k K T S (.slice (some ⟨bb, 0, none⟩) m cap5) m) := H6.out.put (by omega) hg0' hb0 _
      obtain ⟨⟨zy', ry'⟩, fy', _⟩ := H7.out.cell (q := y) hy
      have H8 : Hid (SeH ((w6.setCell ⟨bb, j, none⟩ (.int .i64 zy)).setCell ⟨bb, y, none⟩ (.int .i64 zj)) w0 g a n cap X (1000 + 2 * (m - j)) B b a4 k K T S (.slice (some ⟨bb, 0, none⟩) m cap5) m) := H7.out.put hy hg0' hb0 _
      clear H6 H7
      go_wp2
      go_roundw
      case rel => exact ⟨j, by omega, by go_num, H8.out⟩
      case measure => simp [intOf]
    · have hik' : ¬ (0 : Int) < (i : Int) - 1 := by omega
      have HT : Hid (SeH wi w0 g a n cap X 1018 B b a4 k K T S (.slice a5 m cap5) m) := hT.up (by omega)
      clear hT
      go_wp2_with fail
      refine (one_any _ _ _ _ _ _ _ _ (by omega) (by omega) HT.out.2.2.1.1).mono ?_
      rintro r w7 ⟨b7, rfl, hd⟩
      have H7 : Hid (SeH w7 w0 g a n cap X 1020 B b a4 k K T S (.slice a5 m cap5) m) := HT.out.draw hd hgB (by omega)
      clear hd HT
      cases b7
      · have HFF : Hid (SerDrew w (.returned (.tuple #[.slice a4 k cap4, .slice a5 m cap5])) w7) := by
          obtain ⟨_, _, e, h⟩ := HP.out _ _ _ (by omega) (H7.out.up (by omega))
          cases e; exact h
        clear H7 HP
        go_wp2
        exact bodyPost_ret (v := .tuple #[.slice a4 k cap4, .slice a5 m cap5]) (by simp [results, Try.results31, go_sem]) rfl HFF.out
      · have hz7 : b ≤ w7.heap.size := H7.out.2.2.2
        have HO : Hid (∃ O : Nat → Int, (w7.alloc (.cells #[.int .i64 1] 3)).ownsRow b 3 1 (.slice a5 m cap5) m (cellsL (intF O) 1 m)) := by
          obtain ⟨_, ⟨O, ho⟩, _⟩ := H7.out
          exact ⟨O, ho.alloc _⟩
        obtain ⟨O, ho⟩ := HO.out
        have HOO : Hid ((w7.alloc (.cells #[.int .i64 1] 3)).ownsRow b 3 1 (.slice a5 m cap5) m (cellsL (intF O) 1 m)) := ho
        have HNW : Hid (∀ j u, [Value.int .i64 1][j]? = some u → (w7.alloc (.cells #[.int .i64 1] 3)).cell? ((⟨w7.heap.size, 0, none⟩ : Addr).add j) = some u) := cells_new w7 [.int .i64 1] 3
        clear HO ho
        go_wp2_with (first
          | (at_builtin; refine wpList_append_own_at _ rfl (.tmp 45) (.tmp 46) 25 rfl b 3 i0 (.int .i64 0) 1 8 Try.underlying25 hi0 hz0 hz1 hz2 rfl (by decide) (.slice a5 m cap5) m (cellsL (intF O) 1 m) rfl HOO.out ⟨w7.heap.size, 0, none⟩ 1 1 [.int .i64 1] rfl rfl HNW.out (by intro u hu; simp at hu; subst hu; rfl) (by unfold maxLen; omega) (by omega) (by simp; omega) ?_; intro v4 w4 hown hgrow hnil hwhere)
          | go_in)
        have HFF : Hid (∃ a6 cap6, v4 = .slice a6 (m + 1) cap6 ∧ SerDrew w (.returned (.tuple #[.slice a4 k cap4, .slice a6 (m + 1) cap6])) w4) := by
          obtain ⟨O', e⟩ : ∃ O' : Nat → Int, cellsL (intF O) 1 m ++ [.int .i64 1] = cellsL (intF O') 1 (m + 1) := by
            refine cells_ints (by rw [List.length_append, cellsL_len]; simp) (fun i hi => ?_)
            by_cases him : i < m
            · have e := cellsL_at (intF O) 1 m i 0 him (by omega)
              rw [Nat.mul_one, Nat.add_zero] at e
              exact ⟨O i, by rw [List.getElem?_append_left (by rw [cellsL_len]; omega), e]; rfl⟩
            · have : i = m := by omega
              subst this
              exact ⟨1, by rw [List.getElem?_append_right (by rw [cellsL_len]; omega), cellsL_len]; simp⟩
          rw [e] at hown
          refine HP.out _ _ _ (by omega) ⟨?_, ⟨O', hown⟩, ?_⟩
          · exact (H7.out.1.next (Go.Joins.below_alloc1 _ _)).grew hgrow (fun g hg => Or.inr (HOO.out.lt g hg).1)
          · refine ⟨((H7.out.2.2.1.up (by omega)).alloc _).grown hgrow hg0' (fun j hj => by have := (HOO.out.lt j hj).1; omega), ?_⟩
            have := hgrow.size
            rw [World.size_alloc] at this; omega
        clear hown hgrow hnil hwhere H7 HP HOO HNW
        obtain ⟨a6, cap6, rfl, hf⟩ := HFF.out
        have HF2 : Hid (SerDrew w (.returned (.tuple #[.slice a4 k cap4, .slice a6 (m + 1) cap6])) w4) := hf
        clear HFF hf
        go_wp2
        exact bodyPost_ret (v := .tuple #[.slice a4 k cap4, .slice a6 (m + 1) cap6]) (by simp [results, Try.results31, go_sem]) rfl HF2.out
end Go.Proofs.Ythbpjmnlgfahmaa
