/- Synods: a promise in the place of an older one; a cell of its own is written. -/
import Derived.Test.YtmhkfangfhanlaaSyX
import Derived.Test.YtmhkfangfhanlaaSrP
import Derived.Test.YtmhkfangfhanlaaInsP
namespace Go.Proofs.Ytmhkfangfhanlaa
open Go.RowKit
set_option linter.unusedVariables false
set_option linter.unusedSimpArgs false

theorem turn_at {S0 : Nat → Prop} {W0 W : World} (h : TurnS S0 W0 W) {p : Addr} (hp : S0 p.block ∨ W0.heap.size ≤ p.block) (u : Value) : TurnS S0 W0 (W.setCell p u) := by
  refine ⟨h.1, h.2.1, h.2.2.1, by simpa using h.size, fun k hk hS => ?_⟩
  rw [Below.heap_setCell _ _ _ _ (fun e => ?_)]
  · exact h.block hk hS
  · rcases hp with q | q
    · exact hS (e ▸ q)
    · omega
theorem Chunk.lt0 {W W' : World} {t : TypeId} {g o : Nat} {ec : List Value} (h : Chunk W W' t g o ec) : g < W.heap.size := by
  obtain ⟨cur, cur', h0, h1, _⟩ := h
  rcases Nat.lt_or_ge g W.heap.size with q | q
  · exact q
  · rw [Array.getElem?_eq_none q] at h0; cases h0
section
variable {W0 W W' : World} {lo ga oa gp op : Nat} {S0 : Nat → Prop} {v1 v2 : Value} {B1 B2 : Nat → Prop} {p b : Int} {v own : ByteArray} {ps : List (Sh.T shPromise)} {fx : Bool} {val : ByteArray} {vt : List (Sh.T .int)}
/-- A cell of a block of its own is written. -/
theorem Loc.fresh (h : Loc W0 lo ga oa gp op S0 W v1 v2 B1 B2 p b v own ps fx val vt) {g : Nat} (hg : W0.heap.size ≤ g) (hB : ∀ k, B1 k ∨ B2 k → k ≠ g) (j : Nat) (u : Value) : Loc W0 lo ga oa gp op S0 (W.setCell ⟨g, j, none⟩ u) v1 v2 B1 B2 p b v own ps fx val vt := by
  obtain ⟨h1, h2, h3, h4, h5, h6, h7, h8, h9, h10, h11⟩ := h
  have z1 := h1.lt0
  have z2 := h2.lt0
  exact ⟨h1.keep (Below.heap_setCell _ _ _ _ (by simp; omega)), h2.keep (Below.heap_setCell _ _ _ _ (by simp; omega)), h3.set (p := ⟨g, j, none⟩) (fun q => hB _ (Or.inl q) rfl) _, h4.set (p := ⟨g, j, none⟩) (fun q => hB _ (Or.inr q) rfl) _, h5, fun k hk => ⟨(h6 k hk).1, (h6 k hk).2.1, by have := (h6 k hk).2.2.1; simpa using this, (h6 k hk).2.2.2⟩, h7, h8, h9, turn_at h10 (p := ⟨g, j, none⟩) (Or.inr hg) _, h11⟩
theorem Loc.fresh3 (h : Loc W0 lo ga oa gp op S0 W v1 v2 B1 B2 p b v own ps fx val vt) {g : Nat} (hg : W0.heap.size ≤ g) (hB : ∀ k, B1 k ∨ B2 k → k ≠ g) (u0 u1 u2 : Value) : Loc W0 lo ga oa gp op S0 (((W.setCell ⟨g, 0, none⟩ u0).setCell ⟨g, 1, none⟩ u1).setCell ⟨g, 2, none⟩ u2) v1 v2 B1 B2 p b v own ps fx val vt :=
  ((h.fresh hg hB 0 u0).fresh hg hB 1 u1).fresh hg hB 2 u2
/-- A promise stands in the place of another. -/
theorem Loc.set1 (h : Loc W0 lo ga oa gp op S0 W v1 v2 B1 B2 p b v own ps fx val vt) {k : Nat} (hk : k < ps.length) :
    ∃ g cap u0 u1 u2, v1 = .slice (some ⟨g, 0, none⟩) ps.length cap ∧ g < W.heap.size ∧ W.cell? ⟨g, k * 3, none⟩ = some u0 ∧ W.cell? ⟨g, k * 3 + 1, none⟩ = some u1 ∧ W.cell? ⟨g, k * 3 + 2, none⟩ = some u2 ∧ (∀ j, W.frozen? ⟨g, j, none⟩ = false) ∧ B1 g ∧ ps.length ≤ cap ∧
      ∀ (n' b' : Int) (t' : ByteArray), Loc W0 lo ga oa gp op S0 (((W.setCell ⟨g, k * 3, none⟩ (.int .i64 n')).setCell ⟨g, k * 3 + 1, none⟩ (.int .i64 b')).setCell ⟨g, k * 3 + 2, none⟩ (.string t')) v1 v2 B1 B2 p b v own (ps.set k (mkPm n' b' t')) fx val vt := by
  obtain ⟨h1, h2, h3, h4, h5, h6, h7, h8, h9, h10, h11⟩ := h
  obtain ⟨g, cap, ec, Bk, e1, hg, hlg, hSg, hBk, hel, hce, hroom, hown, hch, hback⟩ := h3.lens hk
  have hel3 : ec.length = 3 := hel
  have hcap : ps.length ≤ cap := by
    rcases h3 with ⟨hl, _⟩ | ⟨g', cap', xs, B, e1', hr, _⟩
    · rw [hl] at hk; exact absurd hk (Nat.not_lt_zero k)
    · have : v1 = .slice (some ⟨g', 0, none⟩) ps.length cap' := (List.cons.inj e1').1
      rw [this] at e1; cases e1
      obtain ⟨cur, _, q, _⟩ := hr; exact q
  match ec, hel3, hce, hown, hch with
  | [u0, u1, u2], _, hce, hown, hch =>
    refine ⟨g, cap, u0, u1, u2, e1, hg, hch.cell (j := 0) rfl, hch.cell (j := 1) rfl, hch.cell (j := 2) rfl, hch.frz, hSg, hcap, fun n' b' t' => ?_⟩
    have hga : ga ≠ g := Ne.symm (h6 g (Or.inl hSg)).1
    have hgp : gp ≠ g := Ne.symm (h6 g (Or.inl hSg)).2.1
    have hn2 : ¬ B2 g := h5 g hSg
    have hS0 := (h6 g (Or.inl hSg)).2.2.2
    have hC : Chunk W (((W.setCell ⟨g, k * 3, none⟩ (.int .i64 n')).setCell ⟨g, k * 3 + 1, none⟩ (.int .i64 b')).setCell ⟨g, k * 3 + 2, none⟩ (.string t')) 96 g (k * 3) [.int .i64 n', .int .i64 b', .string t'] :=
      ((hch.set (j := 0) (by simp) (.int .i64 n')).set (j := 1) (by simp) (.int .i64 b')).set (j := 2) (by simp) (.string t')
    have hO := hback _ [.int .i64 n', .int .i64 b', .string t'] (mkPm n' b' t') (fun _ => False) (fun _ => False) (fun c hc hS hne _ => ((Below.heap_setCell _ _ _ _ hne).trans (Below.heap_setCell _ _ _ _ hne)).trans (Below.heap_setCell _ _ _ _ hne)) hC ((ownx_flat (s := tyPromise) rfl).2 rfl) (fun _ q => absurd q id) (fun _ q => absurd q id)
    exact ⟨((h1.keep (Below.heap_setCell _ _ _ _ hga)).keep (Below.heap_setCell _ _ _ _ hga)).keep (Below.heap_setCell _ _ _ _ hga), ((h2.keep (Below.heap_setCell _ _ _ _ hgp)).keep (Below.heap_setCell _ _ _ _ hgp)).keep (Below.heap_setCell _ _ _ _ hgp), hO.mono (fun c q => q.elim id (fun q => absurd q id)), ((h4.set (p := ⟨g, k * 3, none⟩) hn2 _).set (p := ⟨g, k * 3 + 1, none⟩) hn2 _).set (p := ⟨g, k * 3 + 2, none⟩) hn2 _, h5, fun c hc => ⟨(h6 c hc).1, (h6 c hc).2.1, by have := (h6 c hc).2.2.1; simpa using this, (h6 c hc).2.2.2⟩, h7, h8, h9, turn_at (turn_at (turn_at h10 (p := ⟨g, k * 3, none⟩) hS0 _) (p := ⟨g, k * 3 + 1, none⟩) hS0 _) (p := ⟨g, k * 3 + 2, none⟩) hS0 _, h11⟩
end
noncomputable def putP (l : List (Sh.T shPromise)) (x : Sh.T shPromise) : List (Sh.T shPromise) := if hsP l (pnd x) then l.set (lsP l (pnd x)) x else l.take (lsP l (pnd x)) ++ x :: l.drop (lsP l (pnd x))
theorem lsP_le (l : List (Sh.T shPromise)) (x : Int) : lsP l x ≤ l.length := List.countP_le_length ..
theorem insP_len (l : List (Sh.T shPromise)) (x : Sh.T shPromise) (k : Nat) (hk : k ≤ l.length) : (l.take k ++ x :: l.drop k).length = l.length + 1 := by
  rw [List.length_append, List.length_cons, List.length_take, List.length_drop]; omega
theorem insP_cells (l : List (Sh.T shPromise)) (n b : Int) (t : ByteArray) (k : Nat) (hk : k ≤ l.length) : putAt (prC l) [.int .i64 n, .int .i64 b, .string t] (k * 3) = prC (l.take k ++ mkPm n b t :: l.drop k) := flat_put (α := Sh.T shPromise) (f := valC tyPromise) (c := 3) (x := mkPm n b t) (fun y => valC_len (s := tyPromise) y rfl) hk
theorem lsP_lt {l : List (Sh.T shPromise)} {x : Int} (h : hsP l x = true) : lsP l x < l.length := by
  obtain ⟨a, ha, he⟩ := tf_iff.1 h
  rcases Nat.lt_or_ge (lsP l x) l.length with q | q
  · exact q
  · have e : lsP l x = l.length := Nat.le_antisymm (lsP_le l x) q
    have := (List.countP_eq_length.1 e) a ha
    simp only [decide_eq_true_eq] at this; omega
end Go.Proofs.Ytmhkfangfhanlaa
