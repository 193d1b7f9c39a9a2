/- The values in a bag: mathematics, and lists of texts that are being built. The part on lists of texts as in chapter 10. -/
import Derived.Test.YtnglgndocmkbfaaBgG
import Derived.Test.YtnglgndocmkbfaaL3E
import Derived.Test.YtnglgndocmkbfaaShB
import Derived.Test.YtnglgndocmkbfaaShC
import Derived.Sort.Walk0
import Derived.Lib.SlicesCompact
namespace Go.Proofs.Ytnglgndocmkbfaa
open Go.RowKit
set_option linter.unusedVariables false
set_option linter.unusedSimpArgs false

def vCell (t : ByteArray) : CellV := ⟨t, ⟨#[]⟩⟩
theorem putL_mem {L : List CellV} {x c : CellV} (h : c ∈ putL L x) : c = x ∨ c ∈ L := by
  unfold putL at h
  split at h
  · rcases List.mem_append.1 h with q | q
    · exact Or.inr (List.mem_of_mem_take q)
    · rcases List.mem_cons.1 q with q | q
      · exact Or.inl q
      · exact Or.inr (List.mem_of_mem_drop q)
  · rcases List.mem_append.1 h with q | q
    · exact Or.inr (List.mem_of_mem_take q)
    · rcases List.mem_cons.1 q with q | q
      · exact Or.inl q
      · exact Or.inr (List.mem_of_mem_drop q)
theorem putL_has {L : List CellV} {x : CellV} : x ∈ putL L x := by
  unfold putL
  split <;> simp
theorem putL_keys {L : List CellV} {x c : CellV} (h : c ∈ L) : ∃ e ∈ putL L x, e.f0 = c.f0 := by
  unfold putL
  split
  · rename_i k
    rw [split_at k.1] at h
    rcases List.mem_append.1 h with q | q
    · exact ⟨c, List.mem_append.2 (Or.inl q), rfl⟩
    · rcases List.mem_cons.1 q with q | q
      · exact ⟨x, by simp, by rw [q]; exact (bytes_eq k.2).symm⟩
      · exact ⟨c, List.mem_append.2 (Or.inr (List.mem_cons_of_mem _ q)), rfl⟩
  · rw [← List.take_append_drop (plN L x.f0.toList) L] at h
    rcases List.mem_append.1 h with q | q
    · exact ⟨c, List.mem_append.2 (Or.inl q), rfl⟩
    · exact ⟨c, List.mem_append.2 (Or.inr (List.mem_cons_of_mem _ q)), rfl⟩
def vsK (A : List AdV) (k : Nat) : List CellV := (A.take k).foldl (fun L x => putL L (vCell x.1)) []
theorem vsK_succ {A : List AdV} {k : Nat} (h : k < A.length) : vsK A (k + 1) = putL (vsK A k) (vCell (A[k]'h).1) := by
  unfold vsK; rw [List.take_succ_eq_append_getElem h, List.foldl_append]; rfl
theorem vsK_inv {A : List AdV} : ∀ {k : Nat}, k ≤ A.length → riseL (vsK A k) ∧ (vsK A k).length ≤ k ∧ ∀ t : ByteArray, (∃ c ∈ vsK A k, c.f0 = t) ↔ ∃ x ∈ A.take k, x.1 = t
  | 0, _ => by
    have e : vsK A 0 = [] := by simp [vsK]
    rw [e]
    exact ⟨fun i hi => by simp at hi, Nat.zero_le _, fun t => by simp⟩
  | k + 1, hk => by
    obtain ⟨h1, h2, h3⟩ := vsK_inv (A := A) (k := k) (by omega)
    rw [vsK_succ (by omega)]
    refine ⟨putL_rise _ h1, by have := putL_len (vsK A k) (vCell A[k].1); omega, fun t => ?_⟩
    rw [List.take_succ_eq_append_getElem (by omega)]
    constructor
    · rintro ⟨c, hc, rfl⟩
      rcases putL_mem hc with q | q
      · exact ⟨A[k], List.mem_append.2 (Or.inr (List.mem_singleton.2 rfl)), by rw [q]; rfl⟩
      · obtain ⟨x, hx, e⟩ := (h3 c.f0).1 ⟨c, q, rfl⟩
        exact ⟨x, List.mem_append.2 (Or.inl hx), e⟩
    · rintro ⟨x, hx, rfl⟩
      rcases List.mem_append.1 hx with q | q
      · obtain ⟨c, hc, e⟩ := (h3 x.1).2 ⟨x, q, rfl⟩
        obtain ⟨d, hd, e2⟩ := putL_keys (x := vCell A[k].1) hc
        exact ⟨d, hd, e2.trans e⟩
      · rw [List.mem_singleton] at q
        exact ⟨_, putL_has, by rw [q]; rfl⟩
def kyL (L : List CellV) : List (Sh.T .str) := L.map CellV.f0
theorem kyL_len (L : List CellV) : (kyL L).length = L.length := List.length_map ..
noncomputable def vsA (A G : List AdV) : List (Sh.T .str) := if tf (goodB A G) = true then kyL (vsK A A.length) else []
theorem vsA_yes {A G : List AdV} (h : goodB A G) : vsA A G = kyL (vsK A A.length) := if_pos (tf_yes h)
theorem vsA_no {A G : List AdV} (h : ¬ goodB A G) : vsA A G = [] := if_neg (by rw [tf_no h]; simp)
/-- A list of texts that is being built. -/
def OwS (W : World) (lo : Nat) (v : Value) (M : List ByteArray) : Prop := W.ownsRow lo 9 1 v M.length (M.map Value.string)
theorem OwS.nil (W : World) (lo : Nat) : OwS W lo (.slice none 0 0) [] := World.ownsRow_nil _ _ _ _
theorem OwS.next {W W' : World} {lo : Nat} {v : Value} {M : List ByteArray} (h : OwS W lo v M) (hb : Below W.heap.size W W') : OwS W' lo v M := ownsRow_next h hb
theorem OwS.app {W : World} {lo : Nat} {v : Value} {M : List ByteArray} (h : OwS W lo v M) : AppB W lo 9 .str v M := by
  refine ⟨M.map Value.string, fun _ _ => False, h, fun i hi => ?_, fun i hi b q => q.elim, fun i j _ _ b q => q.elim⟩
  show ((M.map Value.string).drop (i * 1)).take 1 = [.string M[i]]
  have hi' : i < M.length := hi
  rw [Nat.mul_one, List.drop_eq_getElem_cons (by rw [List.length_map]; exact hi'), List.take_succ_cons, List.take_zero, List.getElem_map]
theorem OwS.form {W : World} {lo : Nat} {v : Value} {M : List ByteArray} (h : OwS W lo v M) : ∃ a c, v = .slice a M.length c := by
  rcases Go.Joins.ownsRow_forms h with ⟨h, h0⟩ | ⟨g, cap, hv⟩
  · exact ⟨none, 0, by rw [h, h0]⟩
  · exact ⟨_, _, hv⟩
theorem ownsRow_lo {w : World} {lo lo' : Nat} {e : TypeId} {size : Nat} {v : Value} {n : Nat} {xs : List Value} (h : w.ownsRow lo e size v n xs) (hl : lo' ≤ lo) : w.ownsRow lo' e size v n xs := by
  obtain ⟨h0, h1⟩ := h
  refine ⟨h0, ?_⟩
  rcases h1 with h1 | ⟨g, cap, cur, hv, hgb, r⟩
  · exact Or.inl h1
  · exact Or.inr ⟨g, cap, cur, hv, Nat.le_trans hl hgb, r⟩
theorem cell_both {w : World} {base g cap : Nat} {e : TypeId} {L : List CellV} {p : Nat} (h : w.ownsRow base e 2 (.slice (some ⟨g, 0, none⟩) L.length cap) L.length (cellsC L)) (hp : p < L.length) : w.cell? ⟨g, p * 2, none⟩ = some (.string (cV L p).f0) ∧ w.cell? ⟨g, p * 2 + 1, none⟩ = some (.string (cV L p).f1) := by
  have h2 : (cellsC (L.take p)).length = p * 2 := by rw [cellsC_len, List.length_take, Nat.min_eq_left (by omega)]
  have e : cellsC L = cellsC (L.take p) ++ ([.string (cV L p).f0, .string (cV L p).f1] ++ cellsC (L.drop (p + 1))) := by
    conv => lhs; rw [split_at hp]
    rw [cellsC_append, cellsC_cons]
  refine ⟨?_, ?_⟩
  · rw [h.cellAt _ (by omega), e, List.getElem?_append_right (by omega), h2, Nat.sub_self]; rfl
  · rw [h.cellAt _ (by omega), e, List.getElem?_append_right (by omega), h2, show p * 2 + 1 - p * 2 = 1 by omega]; rfl
theorem OwS.snoc {W0 W W' : World} {lo : Nat} {v v' : Value} {M : List ByteArray} {t : ByteArray} (h : OwS W lo v M) (h2 : W'.ownsRow lo 9 1 v' (M.length + 1) (M.map Value.string ++ [.string t])) : OwS W' lo v' (M ++ [t]) := by
  unfold OwS
  rw [List.length_append, List.map_append]; exact h2
theorem kyL_take {L : List CellV} {k : Nat} (h : k < L.length) : kyL (L.take (k + 1)) = kyL (L.take k) ++ [(cV L k).f0] := by
  unfold kyL; rw [List.take_succ_eq_append_getElem h, List.map_append, cV_at h]; rfl

/-- Two rising lists with the same members are the same. -/
theorem asc_ext : ∀ {X Y : List (List UInt8)}, X.Pairwise (fun a b => Op.bytesLess a b = true) → Y.Pairwise (fun a b => Op.bytesLess a b = true) → (∀ t, t ∈ X ↔ t ∈ Y) → X = Y
  | [], [], _, _, _ => rfl
  | [], y :: Y, _, _, h => by have := (h y).2 (by simp); simp at this
  | x :: X, [], _, _, h => by have := (h x).1 (by simp); simp at this
  | x :: X, y :: Y, hx, hy, h => by
    rw [List.pairwise_cons] at hx hy
    have e : x = y := by
      rcases List.mem_cons.1 ((h x).1 (by simp)) with q | q
      · exact q
      · rcases List.mem_cons.1 ((h y).2 (by simp)) with r | r
        · exact r.symm
        · have := less_trans (hy.1 x q) (hx.1 y r)
          rw [less_irr] at this; cases this
    subst e
    rw [asc_ext hx.2 hy.2 (fun t => ?_)]
    constructor
    · intro ht
      rcases List.mem_cons.1 ((h t).1 (List.mem_cons_of_mem _ ht)) with q | q
      · have := hx.1 t ht; rw [q, less_irr] at this; cases this
      · exact q
    · intro ht
      rcases List.mem_cons.1 ((h t).2 (List.mem_cons_of_mem _ ht)) with q | q
      · have := hy.1 t ht; rw [q, less_irr] at this; cases this
      · exact q
theorem le_less (x y : List UInt8) : decide (x ≤ y) = true ↔ Op.bytesLess y x = false := by
  rw [bytesLess_eq, decide_eq_true_iff, decide_eq_false_iff_not]
  exact Iff.rfl
theorem sort_asc (l : List (List UInt8)) : (l.mergeSort fun x y => decide (x ≤ y)).Pairwise (fun a b => Op.bytesLess b a = false) := by
  have h := List.pairwise_mergeSort (le := fun x y : List UInt8 => decide (x ≤ y)) (fun a b c h1 h2 => by
      rw [le_less] at h1 h2 ⊢
      cases q : Op.bytesLess c a
      · rfl
      · by_cases e : b = a
        · rw [← e] at q; rw [q] at h2; cases h2
        · have := less_trans q (less_tri h1 e); rw [h2] at this; cases this) (fun a b => by
      cases q : Op.bytesLess b a
      · have := (le_less a b).2 q; simp [this]
      · have r : Op.bytesLess a b = false := by
          cases k : Op.bytesLess a b
          · rfl
          · have := less_trans q k; rw [less_irr] at this; cases this
        have := (le_less b a).2 r; simp [this]) l
  exact h.imp (fun {a b} q => (le_less a b).1 q)
theorem cmp_asc {d : Array (List UInt8)} (hd : ∀ i j, i < j → j < d.size → Op.bytesLess d[j]! d[i]! = false) : ∀ m, m ≤ d.size → (Lib.compactUpTo d m).Pairwise (fun a b => Op.bytesLess a b = true) ∧ ∀ t, t ∈ Lib.compactUpTo d m ↔ ∃ j, j < m ∧ d[j]! = t
  | 0, _ => by simp [Lib.compactUpTo]
  | m + 1, hm => by
    obtain ⟨h1, h2⟩ := cmp_asc hd m (by omega)
    rw [Lib.compactUpTo_succ]
    by_cases hk : Lib.keeps d m = true
    · rw [if_pos hk]
      refine ⟨?_, fun t => ?_⟩
      · rw [List.pairwise_append]
        refine ⟨h1, by simp, fun a ha b hb => ?_⟩
        rw [List.mem_singleton] at hb
        rw [hb]
        obtain ⟨j, hj, rfl⟩ := (h2 a).1 ha
        have hk2 : m = 0 ∨ d[m]! ≠ d[m - 1]! := by simpa [Lib.keeps] using hk
        have hk3 : d[m]! ≠ d[m - 1]! := by rcases hk2 with q | q; (· omega); (· exact q)
        have hl : Op.bytesLess d[m - 1]! d[m]! = true := less_tri (hd (m - 1) m (by omega) (by omega)) hk3
        by_cases e : j = m - 1
        · rw [e]; exact hl
        · by_cases e2 : d[j]! = d[m - 1]!
          · rw [e2]; exact hl
          · exact less_trans (less_tri (hd j (m - 1) (by omega) (by omega)) (fun q => e2 q.symm)) hl
      · rw [List.mem_append, h2, List.mem_singleton]
        constructor
        · rintro (⟨j, hj, rfl⟩ | rfl)
          · exact ⟨j, by omega, rfl⟩
          · exact ⟨m, by omega, rfl⟩
        · rintro ⟨j, hj, rfl⟩
          by_cases e : j = m
          · exact Or.inr (by rw [e])
          · exact Or.inl ⟨j, by omega, rfl⟩
    · rw [if_neg hk, List.append_nil]
      refine ⟨h1, fun t => ?_⟩
      rw [h2]
      have hk2 : m ≠ 0 ∧ d[m]! = d[m - 1]! := by simpa [Lib.keeps] using hk
      constructor
      · rintro ⟨j, hj, rfl⟩; exact ⟨j, by omega, rfl⟩
      · rintro ⟨j, hj, rfl⟩
        by_cases e : j = m
        · exact ⟨m - 1, by omega, by rw [e]; exact hk2.2.symm⟩
        · exact ⟨j, by omega, rfl⟩
/-- The bytes of the first k values. -/
def txK (A : List AdV) (k : Nat) : List (List UInt8) := (A.take k).map (fun x => x.1.toList)
theorem vs_sorted (A : List AdV) : Lib.compact ((txK A A.length).mergeSort fun x y => decide (x ≤ y)) = (kyL (vsK A A.length)).map ByteArray.toList := by
  obtain ⟨h1, h2, h3⟩ := vsK_inv (A := A) (k := A.length) (Nat.le_refl _)
  have hs := sort_asc (txK A A.length)
  obtain ⟨S, hS⟩ : ∃ S, S = (txK A A.length).mergeSort fun x y => decide (x ≤ y) := ⟨_, rfl⟩
  have hp : S.Perm (txK A A.length) := by rw [hS]; exact List.mergeSort_perm _ _
  rw [← hS] at hs ⊢
  rw [List.pairwise_iff_getElem] at hs
  obtain ⟨c1, c2⟩ := cmp_asc (d := S.toArray) (fun i j hij hj => by
    have hj' : j < S.length := by simpa using hj
    have hi' : i < S.length := by omega
    have := hs i j hi' hj' hij
    simpa [getElem!_pos, hj', hi'] using this) S.length (by simp)
  unfold Lib.compact
  refine asc_ext c1 ?_ (fun t => ?_)
  · unfold kyL
    rw [List.map_map, List.pairwise_map]
    exact riseL_pw h1
  · rw [c2]
    have e1 : (∃ j, j < S.length ∧ S.toArray[j]! = t) ↔ t ∈ S := by
      constructor
      · rintro ⟨j, hj, rfl⟩
        have : S.toArray[j]! = S[j] := by simp [getElem!_pos, hj]
        rw [this]; exact List.getElem_mem hj
      · intro h
        obtain ⟨j, hj, rfl⟩ := List.getElem_of_mem h
        exact ⟨j, hj, by simp [getElem!_pos, hj]⟩
    rw [e1, hp.mem_iff]
    unfold txK kyL
    rw [List.take_length]
    have h4 := fun t => h3 t
    rw [List.take_length] at h4
    simp only [List.mem_map]
    constructor
    · rintro ⟨x, hx, rfl⟩
      obtain ⟨c, hc, e⟩ := (h4 x.1).2 ⟨x, hx, rfl⟩
      exact ⟨c.f0, ⟨c, hc, rfl⟩, by rw [e]⟩
    · rintro ⟨b, ⟨c, hc, rfl⟩, rfl⟩
      obtain ⟨x, hx, e⟩ := (h4 c.f0).1 ⟨c, hc, rfl⟩
      exact ⟨x, hx, by rw [e]⟩
end Go.Proofs.Ytnglgndocmkbfaa
