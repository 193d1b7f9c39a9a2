/- The contract of txnsOf. -/
import Derived.Test.YthbpjmnlgfahmaaTxG
import Derived.Test.YthbpjmnlgfahmaaSortL
import Derived.Lib.OwnBridge
namespace Go.Proofs.Ythbpjmnlgfahmaa
open Go.RowKit
set_option linter.unusedVariables false

theorem below_grow' {B : Nat} {w0 w : World} (h : Below B w0 w) (hB : B ≤ w.heap.size) (os : Array Obj) : Below B w0 (Go.Sort.grow w os) :=
  ⟨h.os, h.tape, h.output, by have := h.size; simp [Go.Sort.grow]; omega, fun k hk => by
    rw [← h.block k hk]
    simp only [Go.Sort.grow]
    rw [Array.getElem?_append_left (by omega)]⟩
theorem own_in {w : World} {base g : Nat} {e : TypeId} {n cap : Nat} {xs : List Value} (h : w.ownsRow base e 1 (.slice (some ⟨g, 0, none⟩) n cap) n xs) : base ≤ g ∧ g < w.heap.size := h.lt g rfl
theorem sortOwn_any (base g cap : Nat) (zs : List Int) (w : World) (hz : zs.length < 4611686018427387904) (h : w.ownsRow base 3 1 (.slice (some ⟨g, 0, none⟩) zs.length cap) zs.length (zs.map (Value.int .i64))) :
    Calls Try.prog 101 #[.slice (some ⟨g, 0, none⟩) zs.length cap] w fun e w' => e = .returned (.tuple #[]) ∧ w'.ownsRow base 3 1 (.slice (some ⟨g, 0, none⟩) zs.length cap) zs.length ((zs.mergeSort fun x y => decide (x ≤ y)).map (Value.int .i64)) ∧ ∀ B w0, Below B w0 w → B ≤ base → B ≤ w.heap.size → Below B w0 w' := by
  obtain ⟨g', cap', ev, _, _, _, _, _, hH⟩ := Go.Lib.holds_of_ownsRow h (by simp)
  cases ev
  refine (Try.sort_ints g 0 cap zs w hH (own_in h).2 hz).mono ?_
  rintro e w' ⟨rfl, n, os, rfl⟩
  have hl : (zs.mergeSort fun x y => decide (x ≤ y)).length = zs.length := List.length_mergeSort _
  have hp := Go.Lib.ownsRow_putRow (q := n) h hl (Nat.le_refl _)
  rw [← hl, List.take_length, hl] at hp
  have hsz : (Go.Sort.putRow (Value.int .i64) (Go.Sort.ahead w n) g 0 (zs.mergeSort fun x y => decide (x ≤ y)).toArray).heap.size = w.heap.size := by simp [Go.Sort.putRow, Go.Sort.mapBlock, Go.Sort.ahead]
  refine ⟨rfl, own_keep hp (below_grow' (Below.refl _ _) (Nat.le_refl _) os), fun B w0 hb h1 h2 => below_grow' (Go.Lib.below_putRow hb (Nat.le_trans h1 (own_in h).1)) (by rw [hsz]; exact h2) os⟩
theorem txI_V (T : Nat → Int) (n : Nat) : (txI T n).map (Value.int .i64) = xsV (txL T n 9) := by simp [txI, xsV]
theorem cmL_len (K T : Nat → Int) : ∀ m, (cmL K T m).length ≤ m
  | 0 => Nat.le_refl _
  | m + 1 => by
    have := cmL_len K T m
    simp only [cmL]
    split
    · simp; omega
    · omega

def XsOwn (l : List Nat) (w : World) (r : Ending) (w' : World) : Prop := (∃ v, r = .returned v ∧ w'.ownsRow w.heap.size 3 1 v l.length (xsV l)) ∧ Below w.heap.size w w'
set_option maxRecDepth 100000 in
set_option maxHeartbeats 4000000 in
theorem txnsOf_own (a : Option Addr) (n cap : Nat) (K T : Nat → Int) (S : Nat → ByteArray) (w : World) (hn : n ≤ 1048576) (hg : goodP (okO K T S) K T n) (hs : Sl w a n 3 (opF K T S)) :
    Calls Try.prog 74 #[.slice a n cap] w (XsOwn (txL T n 9) w) := by
  have HS : Hid (Sl w a n 3 (opF K T S)) := hs
  have HG : Hid (goodP (okO K T S) K T n) := hg
  clear hs hg
  obtain ⟨i0, hi0, hz0, hz1, hz2⟩ := info_parts info_int'
  go_enter Try.func74, Try.ntmps74
  go_wp2
  go_loopw [8, 3] (fun x v wr => ∃ m : Nat, m ≤ n ∧ x = .int .i64 m ∧ wr.ownsRow w.heap.size 3 1 v (cmL K T m).length ((cmL K T m).map (Value.int .i64)) ∧ Below w.heap.size w wr) (fun x _ _ => n - (intOf x).toNat)
  case atStart => exact ⟨0, Nat.zero_le _, rfl, World.ownsRow_nil _ _ _ _, Below.refl _ _⟩
  case round =>
    obtain ⟨m, hm, rfl, hown, hBi⟩ := hrel
    by_cases hml : m < n
    · rcases HS.out.below hBi (Nat.le_refl _) with h | ⟨b, off, rfl, hbs, hE⟩
      · omega
      have hml' : (m : Int) < (n : Int) := by omega
      obtain ⟨c0, c1, c2⟩ := op_cells hE hml
      have hzi : w.heap.size ≤ wr.heap.size := hBi.size
      have hLk : (cmL K T m).length ≤ 1048576 := by have := cmL_len K T m; omega
      cases hb : (K m == 3)
      · have HE : Hid (cmL K T (m + 1) = cmL K T m) := by show _ = _; rw [cmL, if_neg (by simpa using hb)]
        have HH : Hid (wr.ownsRow w.heap.size 3 1 u3 (cmL K T m).length ((cmL K T m).map (Value.int .i64)) ∧ Below w.heap.size w wr) := ⟨hown, hBi⟩
        clear hown hBi hE
        go_wp2
        go_roundw
        case rel => exact ⟨m + 1, by omega, by go_num, by rw [HE.out]; exact own_keep HH.out.1 (Go.Joins.below_alloc1 _ _), HH.out.2.alloc hzi _⟩
        case measure => simp [intOf]; omega
      · have HE : Hid (cmL K T (m + 1) = cmL K T m ++ [T m]) := by show _ = _; rw [cmL, if_pos (by simpa using hb)]
        obtain ⟨L, hL⟩ : ∃ L, L = cmL K T m := ⟨_, rfl⟩
        rw [← hL] at HE hLk hown
        have HW : Hid ((wr.alloc (.cells #[.int .i64 (K m), .int .i64 (T m), .string (S m)] 44)).ownsRow w.heap.size 3 1 u3 L.length (L.map (Value.int .i64)) ∧ Below w.heap.size w (wr.alloc (.cells #[.int .i64 (K m), .int .i64 (T m), .string (S m)] 44))) := ⟨own_keep hown (Go.Joins.below_alloc1 _ _), hBi.alloc hzi _⟩
        have hnw := cells_new (wr.alloc (.cells #[.int .i64 (K m), .int .i64 (T m), .string (S m)] 44)) [.int .i64 (T m)] 3
        have HNW : Hid (∀ j u, [Value.int .i64 (T m)][j]? = some u → ((wr.alloc (.cells #[.int .i64 (K m), .int .i64 (T m), .string (S m)] 44)).alloc (.cells #[.int .i64 (T m)] 3)).cell? ((⟨wr.heap.size + 1, 0, none⟩ : Addr).add j) = some u) := by rw [World.size_alloc] at hnw; exact hnw
        clear hown hBi hL hE hnw
        go_wp2_with (first
          | (at_builtin; refine wpList_append_own_at _ rfl (.tmp 15) (.tmp 18) 25 rfl w.heap.size 3 i0 (.int .i64 0) 1 8 Try.underlying25 hi0 hz0 hz1 hz2 rfl (by decide) u3 L.length (L.map (Value.int .i64)) rfl (World.ownsRow.alloc HW.out.1 _) ⟨wr.heap.size + 1, 0, none⟩ 1 1 [.int .i64 (T m)] rfl rfl HNW.out (by intro u hu; simp at hu; subst hu; rfl) (by unfold maxLen; omega) (by omega) (by simp <;> omega) ?_; intro v4 w4 hown hgrow hnil hwhere)
          | go_in)
        have HFF : Hid (w4.ownsRow w.heap.size 3 1 v4 (cmL K T (m + 1)).length ((cmL K T (m + 1)).map (Value.int .i64)) ∧ Below w.heap.size w w4) := by
          refine ⟨?_, (HW.out.2.alloc HW.out.2.size _).grown hgrow (by simp; omega) (fun j hj => (HW.out.1.lt j hj).1)⟩
          rw [HE.out, List.map_append, List.length_append]; exact hown
        clear hown hgrow hnil hwhere
        go_wp2
        go_roundw
        case rel => exact ⟨m + 1, by omega, by go_num, HFF.out.1, HFF.out.2⟩
        case measure => simp [intOf]; omega
    · have hmn : m = n := by omega
      subst hmn
      have hsort := sort_txns HG.out
      obtain ⟨L, hL⟩ : ∃ L, L = cmL K T m := ⟨_, rfl⟩
      have hLk : L.length ≤ 1048576 := by rw [hL]; have := cmL_len K T m; omega
      rw [← hL] at hown hsort
      have hlen : L.length = (txL T m 9).length := by
        have := congrArg List.length hsort
        rw [List.length_mergeSort] at this
        rw [this]; simp [txI]
      have HF : Hid (∀ (W : World) (v : Value), W.ownsRow w.heap.size 3 1 v L.length ((L.mergeSort fun x y => decide (x ≤ y)).map (Value.int .i64)) → Below w.heap.size w W → XsOwn (txL T m 9) w (.returned v) W) := by
        intro W v h1 h2
        rw [hsort, txI_V, hlen] at h1
        exact ⟨⟨v, rfl, h1⟩, h2⟩
      have HH : Hid (wr.ownsRow w.heap.size 3 1 u3 L.length (L.map (Value.int .i64)) ∧ Below w.heap.size w wr) := ⟨hown, hBi⟩
      clear hown hBi hsort hlen hL
      rcases Nat.eq_zero_or_pos L.length with h0 | h0
      · have hLn : L = [] := List.length_eq_zero_iff.1 h0
        subst hLn
        have hv : ∃ a5 cap5, u3 = .slice a5 0 cap5 := by
          rcases HH.out.1.2 with ⟨h, _⟩ | ⟨g, cap5, cur, h, _⟩
          · exact ⟨none, 0, h⟩
          · exact ⟨_, cap5, h⟩
        obtain ⟨a5, cap5, rfl⟩ := hv
        clear h0
        go_wp2_with fail
        refine (Try.sort_none _ _ _).mono ?_
        rintro r w9 ⟨rfl, rfl⟩
        go_wp2
        go_ret
        exact HF.out _ _ (by simpa using HH.out.1) HH.out.2
      · obtain ⟨g, cap5, rfl⟩ := Go.Joins.ownsRow_form HH.out.1 h0
        go_wp2_with fail
        refine (sortOwn_any w.heap.size g cap5 L _ (by omega) HH.out.1).mono ?_
        rintro r w9 ⟨rfl, hs9, hb9⟩
        have HE : Hid (XsOwn (txL T m 9) w (.returned (.slice (some ⟨g, 0, none⟩) L.length cap5)) w9) := HF.out _ _ hs9 (hb9 _ _ HH.out.2 (Nat.le_refl _) HH.out.2.size)
        clear hs9 hb9
        go_wp2
        go_ret
        exact HE.out
theorem txnsOf_any (a : Option Addr) (n cap : Nat) (K T : Nat → Int) (S : Nat → ByteArray) (w : World) (hn : n ≤ 1048576) (hg : goodP (okO K T S) K T n) (hs : Sl w a n 3 (opF K T S)) :
    Calls Try.prog 74 #[.slice a n cap] w (XsPost (txL T n 9) w) := by
  refine (txnsOf_own a n cap K T S w hn hg hs).mono ?_
  rintro r w' ⟨⟨v, rfl, h1⟩, h2⟩
  obtain ⟨a4, cap4, rfl, hx⟩ := xs_of h1
  exact ⟨⟨a4, cap4, rfl, hx⟩, h2⟩
end Go.Proofs.Ythbpjmnlgfahmaa
