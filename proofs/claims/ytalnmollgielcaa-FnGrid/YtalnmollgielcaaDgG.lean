/- Grids: how many nodes a row with a column has, that two meet; the draw of a grid. -/
import Derived.Test.YtalnmollgielcaaMtO
import Derived.Test.YtalnmollgielcaaGqI
import Derived.Test.YtalnmollgielcaaGqS
import Derived.Test.YtalnmollgielcaaDrU
namespace Go.Proofs.Ytalnmollgielcaa
open Go.RowKit
set_option linter.unusedVariables false

theorem gridRow_on {C r c i : Nat} (h : i = r) : ∀ k, (gridRow C r c i k).length = k
  | 0 => rfl
  | k + 1 => by rw [gridRow, List.length_append, gridRow_on h k, if_pos (Or.inl h)]; rfl
theorem gridRow_off {C r c i : Nat} (h : i ≠ r) : ∀ k, (gridRow C r c i k).length = if c < k then 1 else 0
  | 0 => rfl
  | k + 1 => by
    rw [gridRow, List.length_append, gridRow_off h k]
    by_cases e : k = c
    · subst e
      rw [if_neg (Nat.lt_irrefl k), if_pos (Or.inr rfl), if_pos (Nat.lt_succ_self k)]; rfl
    · rw [if_neg (show ¬ (i = r ∨ k = c) by omega)]
      by_cases q : c < k
      · rw [if_pos q, if_pos (by omega : c < k + 1)]; rfl
      · rw [if_neg q, if_neg (by omega : ¬ c < k + 1)]; rfl
theorem gridTo_count {C r c : Nat} (hc : c < C) : ∀ k, (gridTo C r c k).length = k + (if r < k then C - 1 else 0)
  | 0 => rfl
  | k + 1 => by
    rw [gridTo, List.length_append, gridTo_count hc k]
    by_cases e : k = r
    · subst e
      rw [gridRow_on rfl, if_neg (Nat.lt_irrefl k), if_pos (Nat.lt_succ_self k)]; omega
    · rw [gridRow_off e, if_pos hc]
      by_cases q : r < k
      · rw [if_pos q, if_pos (by omega : r < k + 1)]; omega
      · rw [if_neg q, if_neg (by omega : ¬ r < k + 1)]
/-- A rising list of such nodes is a good group. -/
theorem gr_list {L : List Int} {m : Int} (hm : 1 ≤ m ∧ m ≤ 12) (hp : L.Pairwise (· < ·)) (hx : ∀ x, x ∈ L → 0 ≤ x ∧ x ≤ m - 1) : grB (atZ L) L.length m = true := by
  refine grB_iff.2 ⟨hm, fun i hi => ⟨?_, fun h0 => ?_⟩⟩
  · rw [atZ_lt hi]; exact hx _ (List.getElem_mem hi)
  · rw [atZ_lt hi, atZ_lt (by omega)]
    exact (List.pairwise_iff_getElem.1 hp) (i - 1) i (by omega) hi (by omega)
theorem atZ_mem {L : List Int} {x : Int} (h : x ∈ L) : ∃ i, i < L.length ∧ atZ L i = x := by
  obtain ⟨i, hi, e⟩ := List.mem_iff_getElem.1 h
  exact ⟨i, hi, by rw [atZ_lt hi]; exact e⟩
theorem grid_good {N D y z : Nat} (hy : y < N) (hz : z < D) (h : D * N ≤ 12) : grB (atZ (gridTo D y z N)) (gridTo D y z N).length ((N : Int) * (D : Int)) = true := by
  have e : (N : Int) * (D : Int) = ((D * N : Nat) : Int) := by rw [Nat.mul_comm]; simp
  have hpos : 1 ≤ D * N := Nat.mul_pos (by omega) (by omega)
  rw [e]
  refine gr_list (by omega) (gridTo_rise N) (fun x hx => ?_)
  obtain ⟨i, j, hi, hj, _, rfl⟩ := gridTo_mem.1 hx
  have := line_lt hi hj
  omega
theorem grid_meet {N D y z y' z' : Nat} (hy : y < N) (hz : z < D) (hy' : y' < N) (hz' : z' < D) :
    mtTo (atZ (gridTo D y z N)) (atZ (gridTo D y' z' N)) (gridTo D y' z' N).length (gridTo D y z N).length ≠ [] := by
  have h1 : ((D * y + z' : Nat) : Int) ∈ gridTo D y z N := gridTo_mem.2 ⟨y, z', hy, hz', Or.inl rfl, rfl⟩
  have h2 : ((D * y + z' : Nat) : Int) ∈ gridTo D y' z' N := gridTo_mem.2 ⟨y, z', hy, hz', Or.inr rfl, rfl⟩
  have h3 := (mtTo_mem (X := atZ (gridTo D y z N)) (Y := atZ (gridTo D y' z' N)) (p := (gridTo D y' z' N).length) (k := (gridTo D y z N).length)).2 ⟨atZ_mem h1, atZ_mem h2⟩
  intro e
  rw [e] at h3
  simp at h3

set_option maxRecDepth 100000 in
set_option maxHeartbeats 2000000 in
theorem drawGrid_any (a : Option Addr) (n cap : Nat) (X : Nat → Int) (w : World) (hn : n ≤ 9223372036854775807) (hs : Sl w a n 1 (byF X)) (hX : ∀ i, i < n → 0 ≤ X i ∧ X i ≤ 255) :
    Calls Try.prog 31 #[.slice a n cap] w fun r w' => ∃ R C y z : Int, (1 ≤ R ∧ R ≤ 4) ∧ (1 ≤ C ∧ C ≤ 4) ∧ r = .returned (.tuple #[.int .i64 R, .int .i64 C, .int .i64 y, .int .i64 z]) ∧ Below w.heap.size w w' := by
  have HC : Hid (Cur (w.alloc (.cells #[.slice a n cap, .int .i64 0, .int .u64 0] 72)) w.heap.size a n cap X 0) := Cur.new _ hs hn hX
  have HB : Hid (Below w.heap.size w (w.alloc (.cells #[.slice a n cap, .int .i64 0, .int .u64 0] 72))) := Go.Joins.below_alloc1 _ _
  clear hs hX
  go_enter Try.func31, Try.ntmps31
  go_wp2_with fail
  obtain ⟨w0, hw0⟩ : ∃ x, x = w.alloc (.cells #[.slice a n cap, .int .i64 0, .int .u64 0] 72) := ⟨_, rfl⟩
  rw [← hw0] at HC HB ⊢
  clear hw0
  have hgw : w.heap.size < w0.heap.size := HC.out.2.2.2.2.2.1
  refine (pick_any _ _ _ _ _ _ _ _ (by omega) (by omega) HC.out).mono ?_
  rintro r w1 ⟨x1, hx1, rfl, hd⟩
  have H1 : Hid (Drew w.heap.size a n cap X 2 w0 w1) := hd
  clear hd HC
  go_wp2_with fail
  refine (pick_any _ _ _ _ _ _ _ _ (by omega) (by omega) H1.out.1).mono ?_
  rintro r w2 ⟨x2, hx2, rfl, hd⟩
  have H2 : Hid (Drew w.heap.size a n cap X 4 w0 w2) := H1.out.trans hd
  clear hd H1
  go_wp2_with fail
  refine (pick_any _ _ _ _ _ _ _ _ (by omega) (by omega) H2.out.1).mono ?_
  rintro r w3 ⟨x3, hx3, rfl, hd⟩
  have H3 : Hid (Drew w.heap.size a n cap X 6 w0 w3) := H2.out.trans hd
  clear hd H2
  go_wp2_with fail
  refine (pick_any _ _ _ _ _ _ _ _ (by omega) (by omega) H3.out.1).mono ?_
  rintro r w4 ⟨x4, hx4, rfl, hd⟩
  have H4 : Hid (Drew w.heap.size a n cap X 8 w0 w4) := H3.out.trans hd
  clear hd H3
  go_wp2_with fail
  refine (pick_any _ _ _ _ _ _ _ _ (by omega) (by omega) H4.out.1).mono ?_
  rintro r w5 ⟨x5, hx5, rfl, hd⟩
  have H5 : Hid (Drew w.heap.size a n cap X 10 w0 w5) := H4.out.trans hd
  clear hd H4
  go_wp2_with fail
  refine (pick_any _ _ _ _ _ _ _ _ (by omega) (by omega) H5.out.1).mono ?_
  rintro r w6 ⟨x6, hx6, rfl, hd⟩
  have H6 : Hid (Drew w.heap.size a n cap X 12 w0 w6) := H5.out.trans hd
  clear hd H5
  go_wp2
  exact bodyPost_ret (v := .tuple #[.int .i64 (1 + x1), .int .i64 (1 + x2), .int .i64 (wrap64 (x3 - wrap64 (x4 * x5))), .int .i64 x6]) (by simp [results, Try.results31, go_sem]) rfl ⟨1 + x1, 1 + x2, wrap64 (x3 - wrap64 (x4 * x5)), x6, by omega, by omega, rfl, below_trn HB.out H6.out.2 (Nat.le_refl _)⟩
end Go.Proofs.Ytalnmollgielcaa
