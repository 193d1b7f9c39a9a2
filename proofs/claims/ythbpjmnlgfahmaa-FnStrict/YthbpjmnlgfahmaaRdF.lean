/- The contracts of ReadsFrom, on both sides. -/
import Derived.Test.YthbpjmnlgfahmaaRecS
import Derived.Test.YthbpjmnlgfahmaaPr
import Derived.Deep.AppendLies
import Derived.Maps.AppendAt
namespace Go.Proofs.Ythbpjmnlgfahmaa
open Go.RowKit
set_option linter.unusedVariables false

theorem Bx.grown {w w' : World} {row : Option Nat} {g : Nat} {vs : List Value} (h : Bx w g vs) (hg : w.grownBy w' row) (hs : w.heap.size ≤ w'.heap.size) (hne : some g ≠ row) : Bx w' g vs :=
  ⟨fun j hj => ⟨(hg.cell_far ⟨g, j, none⟩ h.2 hne).trans (h.1 j hj).1, (hg.frozen_far ⟨g, j, none⟩ h.2 hne).trans (h.1 j hj).2⟩, Nat.lt_of_lt_of_le h.2 hs⟩
theorem own_keep {w w' : World} {base : Nat} {e : TypeId} {size : Nat} {v : Value} {n : Nat} {xs : List Value} (h : w.ownsRow base e size v n xs) (hb : Below w.heap.size w w') : w'.ownsRow base e size v n xs := by
  obtain ⟨h1, h2⟩ := h
  refine ⟨h1, ?_⟩
  rcases h2 with h2 | ⟨g, cap, cur, hv, hg, hh, r⟩
  · exact Or.inl h2
  · have : g < w.heap.size := by
      rcases Nat.lt_or_ge g w.heap.size with q | q
      · exact q
      · rw [Array.getElem?_eq_none q] at hh; cases hh
    exact Or.inr ⟨g, cap, cur, hv, hg, by rw [hb.block g this]; exact hh, r⟩
/-- For each of the first k ops that reads: from whom. -/
def readsL (K T : Nat → Int) (S : Nat → ByteArray) : Nat → List (Int × Int)
  | 0 => []
  | k + 1 => if K k = 1 then readsL K T S k ++ [(fromN K T S k, T k)] else readsL K T S k
theorem readsL_len (K T : Nat → Int) (S : Nat → ByteArray) : ∀ k, (readsL K T S k).length ≤ k
  | 0 => Nat.le_refl _
  | k + 1 => by
    have := readsL_len K T S k
    simp only [readsL]
    split
    · simp; omega
    · omega
def rdL (K T : Nat → Int) (S : Nat → ByteArray) (n : Nat) : List (Int × Int) := if goodO (okO K T S) K T n = true then readsL K T S n else []
theorem rdL_len (K T : Nat → Int) (S : Nat → ByteArray) (n : Nat) (hn : n ≤ 1048576) : (rdL K T S n).length ≤ 1048576 := by
  have := readsL_len K T S n
  unfold rdL; split
  · omega
  · simp
def PairPost (L : List (Int × Int)) (g : Bool) (w : World) (r : Ending) (w' : World) : Prop :=
  (∃ a cap, r = .returned (.tuple #[.slice a L.length cap, .bool g]) ∧ PRow w' w.heap.size w'.heap.size a L.length (pP L) (pQ L)) ∧ Below w.heap.size w w'
theorem pair_no {L : List (Int × Int)} {g : Bool} {w w' : World} (hL : L = []) (hg : g = false) (hb : Below w.heap.size w w') : PairPost L g w (.returned (.tuple #[.slice none 0 0, .bool false])) w' := by
  subst hL hg
  exact ⟨⟨none, 0, rfl, Or.inl rfl, Nat.le_refl _⟩, hb⟩

set_option maxRecDepth 100000 in
set_option maxHeartbeats 4000000 in
theorem readsFrom_any (a : Option Addr) (n cap : Nat) (K T : Nat → Int) (S : Nat → ByteArray) (w : World) (hn : n ≤ 1048576) (hcap : n ≤ cap) (hS : ∀ i, i < n → (S i).size ≤ maxLen) (hs : Sl w a n 3 (opF K T S)) :
    Calls Try.prog 29 #[.slice a n cap] w (PairPost (rdL K T S n) (goodO (okO K T S) K T n) w) := by
  have HS : Hid (Sl w a n 3 (opF K T S) ∧ ∀ i, i < n → (S i).size ≤ maxLen) := ⟨hs, hS⟩
  clear hs hS
  obtain ⟨i0, hi0, hz0, hz1, hz2⟩ := info_parts info_pair
  go_enter Try.func29, Try.ntmps29
  go_wp2_with fail
  refine (goodOps_any _ _ _ K T S _ hn HS.out.2 HS.out.1).mono ?_
  rintro r w1 ⟨rfl, hb1⟩
  have HB1 : Hid (Below w.heap.size w w1) := hb1
  clear hb1
  cases hg : goodO (okO K T S) K T n
  · have HN : Hid (rdL K T S n = []) := by show rdL K T S n = []; simp [rdL, hg]
    have HG0 : Hid (goodO (okO K T S) K T n = false) := hg
    go_wp2
    exact bodyPost_ret (v := .tuple #[.slice none 0 0, .bool false]) (by simp [results, Try.results29, go_sem]) rfl (pair_no HN.out HG0.out HB1.out)
  have HL : Hid (rdL K T S n = readsL K T S n) := by show rdL K T S n = readsL K T S n; simp [rdL, hg]
  have HG1 : Hid (goodO (okO K T S) K T n = true) := hg
  clear hg
  go_wp2
  go_loopw [12, 4] (fun x v wr => ∃ k : Nat, k ≤ n ∧ x = .int .i64 k ∧ wr.ownsRow w.heap.size 107 2 v (readsL K T S k).length (cellsP (readsL K T S k)) ∧ Below w.heap.size w wr) (fun x _ _ => n - (intOf x).toNat)
  case atStart => exact ⟨0, Nat.zero_le _, rfl, World.ownsRow_nil _ _ _ _, HB1.out⟩
  case round =>
    obtain ⟨k, hk, rfl, hown, hBr⟩ := hrel
    clear HB1
    by_cases hlt : k < n
    · have hlt' : (k : Int) < (n : Int) := by omega
      have hkc : (k : Int) ≤ (cap : Int) := by omega
      have hsr := HS.out.1.kept hBr
      have hsl := hsr.le (Nat.le_of_lt hlt)
      rcases hsr with h | ⟨b, off, rfl, hbs, hE⟩
      · omega
      obtain ⟨c0, c1, c2⟩ := op_cells hE hlt
      have hz : w.heap.size ≤ wr.heap.size := hBr.size
      have hx0 := Bx.new wr [.int .i64 (K k), .int .i64 (T k), .string (S k)] 44
      have HH : Hid (wr.ownsRow w.heap.size 107 2 u4 (readsL K T S k).length (cellsP (readsL K T S k)) ∧ Below w.heap.size w wr ∧ Sl wr (some ⟨b, off, none⟩) k 3 (opF K T S)) := ⟨hown, hBr, hsl⟩
      clear hown hBr hE hsl
      cases h1 : (K k == 1)
      · have HE : Hid (readsL K T S (k + 1) = readsL K T S k) := by show _ = _; rw [readsL, if_neg (by simpa using h1)]
        go_wp2
        go_roundw
        case rel => exact ⟨k + 1, by omega, by go_num, by rw [HE.out]; exact own_keep HH.out.1 (Go.Joins.below_alloc1 _ _), HH.out.2.1.alloc hz _⟩
        case measure => simp [intOf]; omega
      · obtain ⟨f, hf⟩ : ∃ f, f = fromN K T S k := ⟨_, rfl⟩
        have HE : Hid (readsL K T S (k + 1) = readsL K T S k ++ [(f, T k)]) := by show _ = _; rw [readsL, if_pos (by simpa using h1), hf]
        have HC : Hid (∀ (W : World), Sl W (some ⟨b, off, none⟩) k 3 (opF K T S) → Calls Try.prog 78 #[.slice (some ⟨b, off, none⟩) k cap, .string (S k)] W fun e W' => e = .returned (.int .i64 f) ∧ Below W.heap.size W W') := fun W h => by rw [hf]; exact lastWriter_any _ _ _ K T S (S k) W (by omega) h
        have HX : Hid (Bx (wr.alloc (.cells #[.int .i64 (K k), .int .i64 (T k), .string (S k)] 44)).drew wr.heap.size [.int .i64 (K k), .int .i64 (T k), .string (S k)] ∧ Below wr.heap.size wr (wr.alloc (.cells #[.int .i64 (K k), .int .i64 (T k), .string (S k)] 44)).drew) := ⟨hx0.next (Below.refl _ _).drew, (Go.Joins.below_alloc1 _ _).drew⟩
        obtain ⟨L, hL⟩ : ∃ L, L = readsL K T S k := ⟨_, rfl⟩
        have hLk : L.length ≤ 1048576 := by have := readsL_len K T S k; rw [hL]; omega
        rw [← hL] at HH HE
        clear hf hL hx0
        go_upto_region 8 with fail
        refine wp_region_noPanic ?_
        refine wp_region_held_drew (S := fun W => Bx W wr.heap.size [.int .i64 (K k), .int .i64 (T k), .string (S k)]) (by kernel_rfl) HX.out.1 (fun hHeld => ?_)
        refine take_v (v := ?_) 0 ⟨some 20, Op.move (Operand.tmp 4), _, _, _, none⟩ rfl (fun _ _ _ h => h) ?_ hHeld ?_
        rotate_left
        · (intro W _; go_simp <;> (try with_reducible rfl))
        refine take_v (v := ?_) 1 ⟨some 21, Op.move (Operand.tmp 0), _, _, _, none⟩ rfl (fun _ _ _ h => h) ?_ hHeld ?_
        rotate_left
        · (intro W _; go_simp <;> (try with_reducible rfl))
        refine take_v (v := ?_) 2 ⟨some 22, Op.move (Operand.tmp 5), _, _, _, none⟩ rfl (fun _ _ _ h => h) ?_ hHeld ?_
        rotate_left
        · (intro W _; go_simp <;> (try with_reducible rfl))
        refine take_v (v := ?_) 3 ⟨some 23, Op.slice 32 (Operand.tmp 21) none (some (Operand.tmp 22)) none, _, _, _, none⟩ rfl (fun _ _ _ h => h) ?_ hHeld ?_
        rotate_left
        · (intro W _; go_simp <;> (try with_reducible rfl))
        refine take_v (v := ?_) 4 ⟨some 24, Op.fieldAddr 44 (Operand.tmp 6) 2, _, _, _, none⟩ rfl (fun _ _ _ h => h) ?_ hHeld ?_
        rotate_left
        · (intro W _; go_simp <;> (try with_reducible rfl))
        refine take_v (v := ?_) 5 ⟨some 25, Op.load 9 (Operand.tmp 24), _, _, _, none⟩ rfl (fun _ _ _ h => h) ?_ hHeld ?_
        rotate_left
        · (intro W hSW; have s1 := hSW.cell 1 rfl; have s2 := hSW.cell 2 rfl; go_simp <;> (try with_reducible rfl))
        refine take_v (v := ?_) 7 ⟨some 27, Op.fieldAddr 44 (Operand.tmp 6) 1, _, _, _, none⟩ rfl (fun _ _ _ h => h) ?_ hHeld ?_
        rotate_left
        · (intro W _; go_simp <;> (try with_reducible rfl))
        refine take_v (v := ?_) 8 ⟨some 28, Op.load 3 (Operand.tmp 27), _, _, _, none⟩ rfl (fun _ _ _ h => h) ?_ hHeld ?_
        rotate_left
        · (intro W hSW; have s1 := hSW.cell 1 rfl; have s2 := hSW.cell 2 rfl; go_simp <;> (try with_reducible rfl))
        refine ready_call 6 ⟨some 26, Op.call { callee := Callee.value (Operand.func 78), args := #[Operand.tmp 23, Operand.tmp 25], argTypes := #[32, 9] }, _, _, _, none⟩ (by kernel_rfl) rfl (by kernel_rfl) (fun K hK => ?_)
        go_wp2_with fail
        refine (HC.out _ (HH.out.2.2.kept HX.out.2)).mono ?_
        rintro e w3 ⟨rfl, hb3⟩
        refine hK.out _ _ (hHeld.next hb3) (fun hHeld => ?_)
        clear hK K
        refine take_v (v := ?_) 9 ⟨some 29, Op.build 107 #[(0, Operand.tmp 26), (1, Operand.tmp 28)], _, _, _, none⟩ rfl (fun _ _ _ h => h) ?_ hHeld ?_
        rotate_left
        · (intro W _; go_simp <;> (try with_reducible rfl))
        refine ready_call 10 ⟨some 30, Op.buildSlice 40 1 #[(0, Operand.tmp 29)], _, _, _, none⟩ (by kernel_rfl) rfl (by kernel_rfl) (fun K hK => ?_)
        go_wp2_with fail
        refine hK.out _ _ (hHeld.alloc _) (fun hHeld => ?_)
        clear hK K
        refine ready_call 11 ⟨some 31, Op.call { callee := Callee.builtin Builtin.append, args := #[Operand.tmp 20, Operand.tmp 30], argTypes := #[40, 40] }, _, _, _, none⟩ (by kernel_rfl) rfl (by kernel_rfl) (fun K hK => ?_)
        have hb3' : Below wr.heap.size wr w3 := below_next HX.out.2 hb3
        have hrow : (w3.alloc (.cells #[.int .i64 f, .int .i64 (T k)] 107)).ownsRow w.heap.size 107 2 u4 L.length (cellsP L) := own_keep (own_keep HH.out.1 hb3') (Go.Joins.below_alloc1 _ _)
        refine wp_append_lies _ (.tmp 20) (.tmp 30) 40 (by rfl) w.heap.size 107 i0 (.agg #[.int .i64 0, .int .i64 0]) 2 16 Try.underlying40 hi0 hz0 hz1 hz2 rfl (by decide) u4 L.length (cellsP L) (by rfl) hrow ⟨w3.heap.size, 0, none⟩ 1 1 [.int .i64 f, .int .i64 (T k)] (by rfl) rfl (cells_new w3 [.int .i64 f, .int .i64 (T k)] 107) (by intro u hu; simp at hu; rcases hu with rfl | rfl <;> rfl) (by omega) (by unfold maxLen; omega) (by omega) (by have := hb3'.size; simp; omega) _ rfl ?_
        intro g4 cap4 w4 hown4 hgrow hat hlt4
        refine hK.out _ _ (hHeld.grown hgrow hgrow.size (fun e => by have := (HH.out.1.lt _ e.symm).2; omega)) (fun hHeld => ?_)
        clear hK K
        refine take_v (v := ?_) 12 ⟨some 4, Op.assign (Operand.tmp 31), _, _, _, none⟩ rfl (fun _ _ _ h => h) ?_ hHeld ?_
        rotate_left
        · (intro W _; go_simp <;> (try with_reducible rfl))
        refine wpAnyH_done (by kernel_rfl) ?_ _
        refine NoPanic.normal ?_
        have HF : Hid (w4.ownsRow w.heap.size 107 2 (.slice (some ⟨g4, 0, none⟩) (L.length + 1) cap4) (readsL K T S (k + 1)).length (cellsP (readsL K T S (k + 1))) ∧ Below w.heap.size w w4) := by
          refine ⟨?_, ((below_next HH.out.2.1 hb3').alloc (by have := hb3'.size; omega) _).grown hgrow (by have := hb3'.size; simp; omega) (fun j hj => (HH.out.1.lt j hj).1)⟩
          rw [HE.out, cellsP_snoc, List.length_append]; exact hown4
        clear hown4 hgrow hat hrow hb3' hb3
        go_wp2
        go_roundw
        case rel => exact ⟨k + 1, by omega, by go_num, HF.out.1, HF.out.2⟩
        case measure => simp [intOf]; omega
    · have hkn : k = n := by omega
      subst hkn
      obtain ⟨a4, cap4, rfl, hx⟩ := PRow.of hown
      have HF : Hid (PairPost (rdL K T S k) (goodO (okO K T S) K T k) w (.returned (.tuple #[.slice a4 (readsL K T S k).length cap4, .bool true])) wr) := by rw [HL.out, HG1.out]; exact ⟨⟨a4, cap4, rfl, hx⟩, hBr⟩
      clear hown hBr hx
      go_wp2
      exact bodyPost_ret (v := .tuple #[.slice a4 (readsL K T S k).length cap4, .bool true]) (by simp [results, Try.results29, go_sem]) rfl HF.out

set_option maxRecDepth 100000 in
set_option maxHeartbeats 4000000 in
theorem specReadsFrom_any (a : Option Addr) (n cap : Nat) (K T : Nat → Int) (S : Nat → ByteArray) (w : World) (hn : n ≤ 1048576) (hcap : n ≤ cap) (hS : ∀ i, i < n → (S i).size ≤ maxLen) (hs : Sl w a n 3 (opF K T S)) :
    Calls Try.prog 30 #[.slice a n cap] w (PairPost (rdL K T S n) (goodO (okO K T S) K T n) w) := by
  have HS : Hid (Sl w a n 3 (opF K T S) ∧ ∀ i, i < n → (S i).size ≤ maxLen) := ⟨hs, hS⟩
  clear hs hS
  obtain ⟨i0, hi0, hz0, hz1, hz2⟩ := info_parts info_pair
  go_enter Try.func30, Try.ntmps30
  go_wp2_with fail
  refine (specGoodOps_any _ _ _ K T S _ hn hcap HS.out.2 HS.out.1).mono ?_
  rintro r w1 ⟨rfl, hb1⟩
  have HB1 : Hid (Below w.heap.size w w1) := hb1
  clear hb1
  cases hg : goodO (okO K T S) K T n
  · have HN : Hid (rdL K T S n = []) := by show rdL K T S n = []; simp [rdL, hg]
    have HG0 : Hid (goodO (okO K T S) K T n = false) := hg
    go_wp2
    exact bodyPost_ret (v := .tuple #[.slice none 0 0, .bool false]) (by simp [results, Try.results30, go_sem]) rfl (pair_no HN.out HG0.out HB1.out)
  have HL : Hid (rdL K T S n = readsL K T S n) := by show rdL K T S n = readsL K T S n; simp [rdL, hg]
  have HG1 : Hid (goodO (okO K T S) K T n = true) := hg
  clear hg
  go_wp2
  go_loopw [14, 4] (fun x v wr => ∃ k : Nat, k ≤ n ∧ x = .int .i64 k ∧ wr.ownsRow w.heap.size 107 2 v (readsL K T S k).length (cellsP (readsL K T S k)) ∧ Below w.heap.size w wr) (fun x _ _ => n - (intOf x).toNat)
  case atStart => exact ⟨0, Nat.zero_le _, rfl, World.ownsRow_nil _ _ _ _, HB1.out⟩
  case round =>
    obtain ⟨k, hk, rfl, hown, hBr⟩ := hrel
    clear HB1
    by_cases hlt : k < n
    · have hlt' : (k : Int) < (n : Int) := by omega
      have hsr := HS.out.1.kept hBr
      have HSr : Hid (Sl wr a n 3 (opF K T S)) := hsr
      rcases hsr with h | ⟨b, off, rfl, hbs, hE⟩
      · omega
      obtain ⟨c0, c1, c2⟩ := op_cells hE hlt
      have hz : w.heap.size ≤ wr.heap.size := hBr.size
      have HH : Hid (wr.ownsRow w.heap.size 107 2 u4 (readsL K T S k).length (cellsP (readsL K T S k)) ∧ Below w.heap.size w wr) := ⟨hown, hBr⟩
      clear hown hBr hE
      cases h1 : (K k == 1)
      · have HE : Hid (readsL K T S (k + 1) = readsL K T S k) := by show _ = _; rw [readsL, if_neg (by simpa using h1)]
        go_wp2
        go_roundw
        case rel => exact ⟨k + 1, by omega, by go_num, by rw [HE.out]; exact own_keep HH.out.1 (Go.Joins.below_alloc1 _ _), HH.out.2.alloc hz _⟩
        case measure => simp [intOf]; omega
      · obtain ⟨f, hf⟩ : ∃ f, f = fromN K T S k := ⟨_, rfl⟩
        have HE : Hid (readsL K T S (k + 1) = readsL K T S k ++ [(f, T k)]) := by show _ = _; rw [readsL, if_pos (by simpa using h1), hf]
        have hfl : lastN (wrB K S (S k)) T k = f := hf.symm
        obtain ⟨L, hL⟩ : ∃ L, L = readsL K T S k := ⟨_, rfl⟩
        have hLk : L.length ≤ 1048576 := by have := readsL_len K T S k; rw [hL]; omega
        rw [← hL] at HH HE
        clear hf hL
        go_wp2_with fail
        refine (l3Last_any _ _ _ k K T S (S k) _ hn (Nat.le_of_lt hlt) (HSr.out.kept (Go.Joins.below_alloc1 _ _))).mono ?_
        rintro r w3 ⟨⟨p, rfl⟩, hw3⟩
        rw [hfl]
        have hw3 := hw3.symm
        subst hw3
        clear hfl
        have HW : Hid ((wr.alloc (.cells #[.int .i64 (K k), .int .i64 (T k), .string (S k)] 44)).ownsRow w.heap.size 107 2 u4 L.length (cellsP L) ∧ Below w.heap.size w (wr.alloc (.cells #[.int .i64 (K k), .int .i64 (T k), .string (S k)] 44))) := ⟨own_keep HH.out.1 (Go.Joins.below_alloc1 _ _), HH.out.2.alloc hz _⟩
        have hnw := cells_new (wr.alloc (.cells #[.int .i64 (K k), .int .i64 (T k), .string (S k)] 44)) [.int .i64 f, .int .i64 (T k)] 107
        have HNW : Hid (∀ j u, [Value.int .i64 f, .int .i64 (T k)][j]? = some u → ((wr.alloc (.cells #[.int .i64 (K k), .int .i64 (T k), .string (S k)] 44)).alloc (.cells #[.int .i64 f, .int .i64 (T k)] 107)).cell? ((⟨wr.heap.size + 1, 0, none⟩ : Addr).add j) = some u) := by rw [World.size_alloc] at hnw; exact hnw
        clear hnw
        go_wp2_with (first
          | (at_builtin; refine wpList_append_own_at _ rfl (.tmp 30) (.tmp 35) 40 rfl w.heap.size 107 i0 (.agg #[.int .i64 0, .int .i64 0]) 2 16 Try.underlying40 hi0 hz0 hz1 hz2 rfl (by decide) u4 L.length (cellsP L) rfl (World.ownsRow.alloc HW.out.1 _) ⟨wr.heap.size + 1, 0, none⟩ 1 1 [.int .i64 f, .int .i64 (T k)] rfl rfl HNW.out (by intro u hu; simp at hu; rcases hu with rfl | rfl <;> rfl) (by unfold maxLen; omega) (by omega) (by simp <;> omega) ?_; intro v4 w4 hown hgrow hnil hwhere)
          | go_in)
        have HF : Hid (w4.ownsRow w.heap.size 107 2 v4 (readsL K T S (k + 1)).length (cellsP (readsL K T S (k + 1))) ∧ Below w.heap.size w w4) := by
          refine ⟨?_, (HW.out.2.alloc HW.out.2.size _).grown hgrow (by simp; omega) (fun j hj => (HW.out.1.lt j hj).1)⟩
          rw [HE.out, cellsP_snoc, List.length_append]; exact hown
        clear hown hgrow hnil hwhere
        go_wp2
        go_roundw
        case rel => exact ⟨k + 1, by omega, by go_num, HF.out.1, HF.out.2⟩
        case measure => simp [intOf]; omega
    · have hkn : k = n := by omega
      subst hkn
      obtain ⟨a4, cap4, rfl, hx⟩ := PRow.of hown
      have HF : Hid (PairPost (rdL K T S k) (goodO (okO K T S) K T k) w (.returned (.tuple #[.slice a4 (readsL K T S k).length cap4, .bool true])) wr) := by rw [HL.out, HG1.out]; exact ⟨⟨a4, cap4, rfl, hx⟩, hBr⟩
      clear hown hBr hx
      go_wp2
      exact bodyPost_ret (v := .tuple #[.slice a4 (readsL K T S k).length cap4, .bool true]) (by simp [results, Try.results30, go_sem]) rfl HF.out
end Go.Proofs.Ythbpjmnlgfahmaa
