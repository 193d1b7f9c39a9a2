/- The contract of ConflictsOf. -/
import Derived.Test.YthbpjmnlgfahmaaCfE
import Derived.Test.YthbpjmnlgfahmaaRdF
namespace Go.Proofs.Ythbpjmnlgfahmaa
open Go.RowKit
set_option linter.unusedVariables false

set_option maxRecDepth 100000 in
theorem tab_index (f r : Nat → Bool) (k : Nat) (hk : k < 9) (hr : r = fun y => f (9 * k + y)) (w : World) :
    (Instr.index 98 (.agg (tabV f).toArray) (.int .i64 (k : Int))).run Try.prog w = .ok (.agg #[.bool (r 0), .bool (r 1), .bool (r 2), .bool (r 3), .bool (r 4), .bool (r 5), .bool (r 6), .bool (r 7), .bool (r 8)]) w := by
  subst hr
  revert k hk
  refine upto9 ?_ ?_ ?_ ?_ ?_ ?_ ?_ ?_ ?_ <;> kernel_rfl
set_option maxRecDepth 100000 in
theorem nine_index (r : Nat → Bool) (k : Nat) (hk : k < 9) (w : World) :
    (Instr.index 96 (.agg #[.bool (r 0), .bool (r 1), .bool (r 2), .bool (r 3), .bool (r 4), .bool (r 5), .bool (r 6), .bool (r 7), .bool (r 8)]) (.int .i64 (k : Int))).run Try.prog w = .ok (.bool (r k)) w := by
  revert k hk
  refine upto9 ?_ ?_ ?_ ?_ ?_ ?_ ?_ ?_ ?_ <;> kernel_rfl
noncomputable def cfT (K T : Nat → Int) (S : Nat → ByteArray) (n : Nat) : List (Int × Int) := tabL (edB K T S n) (List.range 9) (List.range 9)
noncomputable def cfL (K T : Nat → Int) (S : Nat → ByteArray) (n : Nat) : List (Int × Int) := if goodO (okO K T S) K T n = true then cfT K T S n else []
theorem cfT_len (K T : Nat → Int) (S : Nat → ByteArray) (n : Nat) : (cfT K T S n).length ≤ 81 := by
  have := tabL_len (edB K T S n) (List.range 9) (List.range 9)
  simpa [cfT] using this
theorem cfL_len (K T : Nat → Int) (S : Nat → ByteArray) (n : Nat) : (cfL K T S n).length ≤ 1048576 := by
  have := cfT_len K T S n
  unfold cfL; split
  · omega
  · simp
/-- The pairs that two loops over rows and places have told. -/
def meL (e : Nat → Nat → Bool) (k m : Nat) : List (Int × Int) := tabL e (List.range k) (List.range 9) ++ rowL e k (List.range m)
theorem meL_len {e : Nat → Nat → Bool} {k m : Nat} (hk : k < 9) (hm : m ≤ 9) : (meL e k m).length ≤ 1000 := by
  have a := tabL_len e (List.range 9) (List.range k)
  have b := rowL_len e k (List.range m)
  simp only [List.length_range] at a b
  simp only [meL, List.length_append]
  omega
theorem meL_yes {e : Nat → Nat → Bool} {k m : Nat} (h : e k m = true) : meL e k (m + 1) = meL e k m ++ [((k : Int), (m : Int))] := by
  simp only [meL, List.range_succ, rowL_yes h, List.append_assoc]
theorem meL_no {e : Nat → Nat → Bool} {k m : Nat} (h : e k m = false) : meL e k (m + 1) = meL e k m := by
  simp only [meL, List.range_succ, rowL_no h]
theorem meL_start (e : Nat → Nat → Bool) (k : Nat) : meL e k 0 = tabL e (List.range k) (List.range 9) := by simp [meL, rowL]
theorem meL_end (e : Nat → Nat → Bool) (k : Nat) : meL e k 9 = tabL e (List.range (k + 1)) (List.range 9) := by
  rw [List.range_succ, tabL_snoc]; rfl

set_option maxRecDepth 100000 in
set_option maxHeartbeats 8000000 in
theorem conflictsOf_any (a : Option Addr) (n cap : Nat) (K T : Nat → Int) (S : Nat → ByteArray) (w : World) (hn : n ≤ 1048576) (hcap : n ≤ cap) (hS : ∀ i, i < n → (S i).size ≤ maxLen) (hs : Sl w a n 3 (opF K T S)) :
    Calls Try.prog 50 #[.slice a n cap] w (PairPost (cfL K T S n) (goodO (okO K T S) K T n) w) := by
  have HS : Hid (Sl w a n 3 (opF K T S) ∧ ∀ i, i < n → (S i).size ≤ maxLen) := ⟨hs, hS⟩
  clear hs hS
  obtain ⟨i0, hi0, hz0, hz1, hz2⟩ := info_parts info_pair
  go_enter Try.func50, Try.ntmps50
  go_wp2_with fail
  refine (goodOps_any _ _ _ K T S _ hn HS.out.2 HS.out.1).mono ?_
  rintro r w1 ⟨rfl, hb1⟩
  have HB1 : Hid (Below w.heap.size w w1) := hb1
  clear hb1
  cases hg : goodO (okO K T S) K T n
  · have HN : Hid (cfL K T S n = []) := by show cfL K T S n = []; simp [cfL, hg]
    have HG0 : Hid (goodO (okO K T S) K T n = false) := hg
    go_wp2
    exact bodyPost_ret (v := .tuple #[.slice none 0 0, .bool false]) (by simp [results, Try.results50, go_sem]) rfl (pair_no HN.out HG0.out HB1.out)
  have HL : Hid (cfL K T S n = cfT K T S n) := by show cfL K T S n = cfT K T S n; simp [cfL, hg]
  have HG1 : Hid (goodO (okO K T S) K T n = true) := hg
  have HGP : Hid (goodP (okO K T S) K T n) := goodO_out hg
  clear hg
  go_wp2_with fail
  refine (edgesOf_any _ _ _ K T S _ hn hcap HGP.out (HS.out.1.kept HB1.out)).mono ?_
  rintro r w2 ⟨⟨f, rfl, hf⟩, hb2⟩
  have HB2 : Hid (Below w.heap.size w w2) := HB1.out.trans (hb2.mono HB1.out.size)
  have HF : Hid (∀ x y, x < 9 → y < 9 → f (9 * x + y) = edB K T S n x y) := hf
  obtain ⟨e, he⟩ : ∃ e, e = edB K T S n := ⟨_, rfl⟩
  have HE : Hid (e = edB K T S n) := he
  rw [← he] at HF
  have HTI : Hid (∀ (r : Nat → Bool) (k : Nat), k < 9 → r = (fun y => f (9 * k + y)) → ∀ W : World, (Instr.index 98 (.agg (tabV f).toArray) (.int .i64 (k : Int))).run Try.prog W = .ok (.agg #[.bool (r 0), .bool (r 1), .bool (r 2), .bool (r 3), .bool (r 4), .bool (r 5), .bool (r 6), .bool (r 7), .bool (r 8)]) W) := fun r k hk hr W => tab_index f r k hk hr W
  clear hf hb2 he HB1
  generalize (tabV f).toArray = A at *
  go_wp2
  go_loopw [14, 4] (fun x v wr => ∃ k : Nat, k ≤ 9 ∧ x = .int .i64 k ∧ wr.ownsRow w.heap.size 107 2 v (tabL e (List.range k) (List.range 9)).length (cellsP (tabL e (List.range k) (List.range 9))) ∧ Below w.heap.size w wr) (fun x _ _ => 9 - (intOf x).toNat)
  case atStart => exact ⟨0, Nat.zero_le _, rfl, World.ownsRow_nil _ _ _ _, HB2.out⟩
  case round =>
    obtain ⟨k, hk, rfl, hown, hBr⟩ := hrel
    clear HB2
    obtain ⟨wo, hwo⟩ : ∃ x, x = wr := ⟨wr, rfl⟩
    subst hwo
    by_cases hlt : k < 9
    · have hlt' : (k : Int) < 9 := by omega
      obtain ⟨r, hr⟩ : ∃ r : Nat → Bool, r = fun y => f (9 * k + y) := ⟨_, rfl⟩
      have hti := HTI.out r k hlt hr
      have HR : Hid (∀ m, m < 9 → r m = e k m) := fun m hm => by rw [hr]; exact HF.out k m hlt hm
      have hz : w.heap.size ≤ wo.heap.size := hBr.size
      have HH : Hid (wo.ownsRow w.heap.size 107 2 u4 (meL e k 0).length (cellsP (meL e k 0)) ∧ Below w.heap.size w wo) := by rw [meL_start]; exact ⟨hown, hBr⟩
      clear hown hBr hr
      go_wp2
      go_loopw [19, 4] (fun x v wr => ∃ m : Nat, m ≤ 9 ∧ x = .int .i64 m ∧ wr.ownsRow w.heap.size 107 2 v (meL e k m).length (cellsP (meL e k m)) ∧ Below w.heap.size w wr) (fun x _ _ => 9 - (intOf x).toNat)
      case atStart => exact ⟨0, Nat.zero_le _, rfl, own_keep HH.out.1 (Go.Joins.below_alloc1 _ _), HH.out.2.alloc hz _⟩
      case round =>
        obtain ⟨m, hm, rfl, hown, hBi⟩ := hrel
        clear HH hti
        by_cases hml : m < 9
        · have hml' : (m : Int) < 9 := by omega
          have hni := nine_index r m hml
          have hzi : w.heap.size ≤ wr.heap.size := hBi.size
          have hLk : (meL e k m).length ≤ 1000 := meL_len hlt hm
          have HRm : Hid (r m = e k m) := HR.out m hml
          cases hb : r m
          · have HE' : Hid (meL e k (m + 1) = meL e k m) := meL_no (HRm.out.symm.trans hb)
            have HH : Hid (wr.ownsRow w.heap.size 107 2 u4 (meL e k m).length (cellsP (meL e k m)) ∧ Below w.heap.size w wr) := ⟨hown, hBi⟩
            clear hown hBi
            go_wp2
            go_roundw
            case rel => exact ⟨m + 1, by omega, by go_num, by rw [HE'.out]; exact HH.out.1, HH.out.2⟩
            case measure => simp [intOf]; omega
          · have HE' : Hid (meL e k (m + 1) = meL e k m ++ [((k : Int), (m : Int))]) := meL_yes (HRm.out.symm.trans hb)
            obtain ⟨L, hL⟩ : ∃ L, L = meL e k m := ⟨_, rfl⟩
            rw [← hL] at HE' hLk hown
            have HH : Hid (wr.ownsRow w.heap.size 107 2 u4 L.length (cellsP L) ∧ Below w.heap.size w wr) := ⟨hown, hBi⟩
            have HNW : Hid (∀ j u, [Value.int .i64 (k : Int), .int .i64 (m : Int)][j]? = some u → (wr.alloc (.cells #[.int .i64 (k : Int), .int .i64 (m : Int)] 107)).cell? ((⟨wr.heap.size, 0, none⟩ : Addr).add j) = some u) := cells_new wr [.int .i64 (k : Int), .int .i64 (m : Int)] 107
            clear hown hBi hL
            go_wp2_with (first
              | (at_builtin; refine wpList_append_own_at _ rfl (.tmp 24) (.tmp 28) 40 rfl w.heap.size 107 i0 (.agg #[.int .i64 0, .int .i64 0]) 2 16 Try.underlying40 hi0 hz0 hz1 hz2 rfl (by decide) u4 L.length (cellsP L) rfl (World.ownsRow.alloc HH.out.1 _) ⟨wr.heap.size, 0, none⟩ 1 1 [.int .i64 (k : Int), .int .i64 (m : Int)] rfl rfl HNW.out (by intro u hu; simp at hu; rcases hu with rfl | rfl <;> rfl) (by unfold maxLen; omega) (by omega) (by simp <;> omega) ?_; intro v4 w4 hown hgrow hnil hwhere)
              | go_in)
            have HFF : Hid (w4.ownsRow w.heap.size 107 2 v4 (meL e k (m + 1)).length (cellsP (meL e k (m + 1))) ∧ Below w.heap.size w w4) := by
              refine ⟨?_, (HH.out.2.alloc HH.out.2.size _).grown hgrow (by simp; omega) (fun j hj => (HH.out.1.lt j hj).1)⟩
              rw [HE'.out, cellsP_snoc, List.length_append]; exact hown
            clear hown hgrow hnil hwhere
            go_wp2
            go_roundw
            case rel => exact ⟨m + 1, by omega, by go_num, HFF.out.1, HFF.out.2⟩
            case measure => simp [intOf]; omega
        · have hm9 : m = 9 := by omega
          subst hm9
          have HH : Hid (wr.ownsRow w.heap.size 107 2 u4 (tabL e (List.range (k + 1)) (List.range 9)).length (cellsP (tabL e (List.range (k + 1)) (List.range 9))) ∧ Below w.heap.size w wr) := by rw [← meL_end]; exact ⟨hown, hBi⟩
          clear hown hBi
          go_wp2
          go_roundw
          case rel => exact ⟨k + 1, by omega, by go_num, HH.out.1, HH.out.2⟩
          case measure => simp [intOf]; omega
    · have hk9 : k = 9 := by omega
      subst hk9
      obtain ⟨a4, cap4, rfl, hx⟩ := PRow.of hown
      obtain ⟨L, hL⟩ : ∃ L, L = cfL K T S n := ⟨_, rfl⟩
      have hL2 : tabL e (List.range 9) (List.range 9) = L := by rw [hL, HL.out, HE.out]; rfl
      rw [hL2] at hx
      have HF : Hid (PairPost (cfL K T S n) (goodO (okO K T S) K T n) w (.returned (.tuple #[.slice a4 L.length cap4, .bool true])) wo) := by rw [HG1.out, ← hL]; exact ⟨⟨a4, cap4, rfl, hx⟩, hBr⟩
      rw [hL2]
      clear hown hBr hx hL2 hL
      go_wp2
      exact bodyPost_ret (v := .tuple #[.slice a4 L.length cap4, .bool true]) (by simp [results, Try.results50, go_sem]) rfl HF.out
end Go.Proofs.Ythbpjmnlgfahmaa
