/- Lists built anew whose rows are known exactly; one number of such a list set in place. No Go text is spoken of here. -/
import Derived.Test.YtkpobihpcnoemaaShW
namespace Go.Proofs.Ytkpobihpcnoemaa
open Go.RowKit
set_option linter.unusedVariables false
set_option linter.unusedSimpArgs false

theorem lies_drop {w : World} {e : Sh} {g off n cap : Nat} {l : List e.T} (h : Lies w (.list e) [.slice (some ⟨g, off, none⟩) n cap] l) (k : Nat) (hk : k ≤ l.length) : Lies w (.list e) [.slice (some ⟨g, off + k * e.c, none⟩) (n - k) (cap - k)] (l.drop k) := by
  obtain ⟨ad, c, e1, c1, c2, h⟩ := h
  simp only [List.cons.injEq, Value.slice.injEq, and_true] at e1
  obtain ⟨e0, rfl, rfl⟩ := e1
  have hl : (l.drop k).length = l.length - k := by rw [List.length_drop]
  refine ⟨_, _, by rw [hl], by omega, by omega, ?_⟩
  rcases h with h | ⟨g', off', e2, hg, hE⟩
  · left; rw [h]; simp
  · rw [← e0] at e2
    have e2 : g = g' ∧ off = off' := by simpa using e2
    obtain ⟨rfl, rfl⟩ := e2
    right
    refine ⟨g, off + k * e.c, rfl, hg, fun i hi => ?_⟩
    obtain ⟨ec, h1, h2, h3⟩ := hE (k + i) (by omega)
    refine ⟨ec, h1, fun j hj => ?_, by rw [List.getElem_drop]; exact h3⟩
    have := h2 j hj
    rw [Nat.add_mul] at this
    rw [← this]
    congr 2
    omega
theorem lies_one {w : World} {e : Sh} {cs : List Value} {x : e.T} (t : TypeId) (hl : cs.length = e.c) (h : Lies (w.alloc (.cells cs.toArray t)) e cs x) : Lies (w.alloc (.cells cs.toArray t)) (.list e) [.slice (some ⟨w.heap.size, 0, none⟩) 1 1] [x] := by
  refine ⟨_, 1, rfl, by simp, by unfold maxLen; omega, Or.inr ⟨w.heap.size, 0, rfl, by simp, fun i hi => ⟨cs, hl, fun j hj => ?_, ?_⟩⟩⟩
  · have hi0 : i = 0 := by simpa using hi
    subst hi0
    have hj' : j < cs.length := by omega
    rw [List.getElem?_eq_getElem hj']
    have := cells_new w cs t j cs[j] (List.getElem?_eq_getElem hj')
    simp
  · have hi0 : i = 0 := by simpa using hi
    subst hi0; exact h
/-- A list that is being built, since w. -/
def ApS (e : Ty) (t : TypeId) (w W : World) (v : Value) (l : List e.T) : Prop := OwnX W w.heap.size (.list e t) [v] l (Btw w.heap.size W.heap.size) ∧ Below w.heap.size w W
theorem ApS.nil {e : Ty} {t : TypeId} {w : World} : ApS e t w w (.slice none 0 0) [] := ⟨OwnX.nil', Below.refl _ _⟩
theorem ApS.next {e : Ty} {t : TypeId} {w W W' : World} {v : Value} {l : List e.T} (he : e.flatB = true) (h : ApS e t w W v l) (hb : Below W.heap.size W W') : ApS e t w W' v l := by
  obtain ⟨row, _⟩ := (h.1.next hb).flat he
  exact ⟨OwnX.of_flat he row (fun k hk => row.lt k hk), below_next h.2 hb⟩
theorem ApS.app {e : Ty} {t : TypeId} {w W W' : World} {v v' : Value} {l l2 : List e.T} {S : Nat → Prop} (he : e.flatB = true) (h : ApS e t w W v l) (hO : OwnX W' w.heap.size (.list e t) [v'] (l ++ l2) S) (hg : W.grownBy W' v.ownBlock) : ApS e t w W' v' (l ++ l2) := by
  obtain ⟨row, _⟩ := hO.flat he
  obtain ⟨row0, _⟩ := h.1.flat he
  exact ⟨OwnX.of_flat he row (fun k hk => row.lt k hk), h.2.grown hg h.2.size (fun k hk => (row0.lt k hk).1)⟩
/-- A new list is answered. -/
def NewX (e : Ty) (t : TypeId) (l : List e.T) (w : World) (r : Ending) (w' : World) : Prop := ∃ v, r = .returned v ∧ ApS e t w w' v l
theorem OwnX.form {W : World} {lo : Nat} {e : Ty} {t : TypeId} {v : Value} {l : List e.T} {S : Nat → Prop} (h : OwnX W lo (.list e t) [v] l S) : (l = [] ∧ v = .slice none 0 0) ∨ ∃ g cap, v = .slice (some ⟨g, 0, none⟩) l.length cap ∧ g < W.heap.size := by
  rcases h with ⟨hl, e1⟩ | ⟨g, cap, xs, B, e1, hr, _⟩
  · exact Or.inl ⟨hl, by simpa using e1⟩
  · have e1 : v = .slice (some ⟨g, 0, none⟩) l.length cap := by simpa using e1
    exact Or.inr ⟨g, cap, e1, by subst e1; exact hr.lt⟩
theorem ApS.made {e : Ty} {t : TypeId} {w : World} (he : e.flatB = true) : ApS e t w (w.alloc (.cells #[] t)) (.slice (some ⟨w.heap.size, 0, none⟩) 0 0) [] := by
  refine ⟨OwnX.of_flat he (World.ownsRow_made w #[] 0 (Nat.le_refl _) (Nat.zero_le _) (by simp)) (fun k hk => ?_), Go.Joins.below_alloc1 _ _⟩
  cases hk
  simp [Btw]
/-- One number of a list is set in place. -/
theorem OwnX.seti {W : World} {lo : Nat} {t : TypeId} {g n cap : Nat} {l : List (Sh.T .int)} {S : Nat → Prop} (h : OwnX W lo (.list .int t) [.slice (some ⟨g, 0, none⟩) n cap] l S) {k : Nat} (hk : k < l.length) (x : Int) : OwnX (W.setCell ⟨g, k, none⟩ (.int .i64 x)) lo (.list .int t) [.slice (some ⟨g, 0, none⟩) n cap] (l.set k x) S := by
  obtain ⟨g', cap', ec, Bk, hv, hg, hlo, hS, hB, hec, hcells, hroom, hO, hch, hback⟩ := OwnX.lens (e := .int) h hk
  simp only [Value.slice.injEq, Option.some.injEq, Addr.mk.injEq, and_true] at hv
  obtain ⟨rfl, _, _⟩ := hv
  have e : k * Ty.c .int = k := Nat.mul_one k
  have hO : ec = [.int .i64 l[k]] := hO
  subst hO
  have h2 := hch.set (j := 0) (by simp) (.int .i64 x)
  rw [e] at h2 hback
  exact (hback (W.setCell ⟨g, k, none⟩ (.int .i64 x)) [.int .i64 x] x Bk (fun _ => False) (fun b _ _ hb _ => Below.heap_setCell _ _ _ _ hb) h2 rfl (fun b hb => Or.inl hb) (fun b q => q.elim)).mono (fun b q => q.elim id False.elim)
theorem OwnX.inti {W : World} {lo : Nat} {t : TypeId} {g n cap : Nat} {l : List (Sh.T .int)} {S : Nat → Prop} (h : OwnX W lo (.list .int t) [.slice (some ⟨g, 0, none⟩) n cap] l S) {k : Nat} (hk : k < l.length) : W.cell? ⟨g, k, none⟩ = some (.int .i64 (atI l k)) ∧ W.frozen? ⟨g, k, none⟩ = false ∧ g < W.heap.size := by
  obtain ⟨g', cap', ec, Bk, hv, hg, hlo, hS, hB, hec, hcells, hroom, hO, hch, hback⟩ := OwnX.lens (e := .int) h hk
  simp only [Value.slice.injEq, Option.some.injEq, Addr.mk.injEq, and_true] at hv
  obtain ⟨rfl, _, _⟩ := hv
  have e : k * Ty.c .int = k := Nat.mul_one k
  have hO : ec = [.int .i64 l[k]] := hO
  subst hO
  have h1 := hcells 0 (by simp)
  rw [e] at h1
  have hr : k < l.length * Ty.c .int := Nat.lt_of_lt_of_le hk (Nat.le_of_eq (Nat.mul_one _).symm)
  exact ⟨by rw [atI_lt hk]; exact h1, (hroom k hr).2, hg⟩

/-- A list of numbers in a row of its own, block g. -/
def Rw (t : TypeId) (W : World) (lo g c : Nat) (l : List (Sh.T .int)) (m : Nat) : Prop := OwnX W lo (.list .int t) [.slice (some ⟨g, 0, none⟩) m c] l (fun k => k = g) ∧ l.length = m
theorem Rw.keep {t : TypeId} {W W' : World} {lo g c m : Nat} {l : List (Sh.T .int)} (h : Rw t W lo g c l m) (e : W'.heap[g]? = W.heap[g]?) : Rw t W' lo g c l m := ⟨h.1.keep (fun k _ hk => by have hk : k = g := hk; subst hk; exact e), h.2⟩
theorem Rw.lt {t : TypeId} {W : World} {lo g c m : Nat} {l : List (Sh.T .int)} (h : Rw t W lo g c l m) : g < W.heap.size ∧ lo ≤ g := by
  rcases h.1 with ⟨_, q⟩ | ⟨g', cap, xs, B, e1, hr, hlo, _⟩
  · simp at q
  · simp only [List.cons.injEq, Value.slice.injEq, Option.some.injEq, Addr.mk.injEq, and_true] at e1
    obtain ⟨rfl, _⟩ := e1
    exact ⟨hr.lt, hlo⟩
theorem Rw.next {t : TypeId} {W W' : World} {lo g c m : Nat} {l : List (Sh.T .int)} (h : Rw t W lo g c l m) (hb : Below W.heap.size W W') : Rw t W' lo g c l m := h.keep (hb.block g h.lt.1)
theorem Rw.turn {t : TypeId} {S : Nat → Prop} {W W' : World} {lo g c m : Nat} {l : List (Sh.T .int)} (h : Rw t W lo g c l m) (ht : TurnS S W W') (hg : ¬ S g) : Rw t W' lo g c l m := h.keep (ht.block h.lt.1 hg)
theorem Rw.other {t : TypeId} {W : World} {lo g c m : Nat} {l : List (Sh.T .int)} (h : Rw t W lo g c l m) {p : Addr} (hg : g ≠ p.block) (v : Value) : Rw t (W.setCell p v) lo g c l m := h.keep (Below.heap_setCell _ _ _ _ hg)
theorem Rw.set {t : TypeId} {W : World} {lo g c m : Nat} {l : List (Sh.T .int)} (h : Rw t W lo g c l m) {k : Nat} (hk : k < m) (x : Int) : Rw t (W.setCell ⟨g, k, none⟩ (.int .i64 x)) lo g c (l.set k x) m := ⟨h.1.seti (by rw [h.2]; exact hk) x, by rw [List.length_set]; exact h.2⟩
theorem Rw.at {t : TypeId} {W : World} {lo g c m : Nat} {l : List (Sh.T .int)} (h : Rw t W lo g c l m) {k : Nat} (hk : k < m) : W.cell? ⟨g, k, none⟩ = some (.int .i64 (atI l k)) ∧ W.frozen? ⟨g, k, none⟩ = false ∧ g < W.heap.size := h.1.inti (by rw [h.2]; exact hk)
theorem Rw.lies {t : TypeId} {W : World} {lo g c m : Nat} {l : List (Sh.T .int)} (h : Rw t W lo g c l m) : Lies W (.list .int) [.slice (some ⟨g, 0, none⟩) l.length c] l := by have := OwnX.lies h.1; rw [h.2]; exact this
theorem Rw.lower {t : TypeId} {W : World} {lo lo' g c m : Nat} {l : List (Sh.T .int)} (h : Rw t W lo g c l m) (hl : lo' ≤ lo) : Rw t W lo' g c l m := ⟨h.1.lower hl, h.2⟩
/-- A list that is not empty lies so. -/
theorem Rw.of {t : TypeId} {W : World} {lo : Nat} {v : Value} {l : List (Sh.T .int)} {S : Nat → Prop} (h : OwnX W lo (.list .int t) [v] l S) (hl : l ≠ []) : ∃ g c, v = .slice (some ⟨g, 0, none⟩) l.length c ∧ S g ∧ Rw t W lo g c l l.length := by
  obtain ⟨row, hS⟩ := OwnX.flat (e := .int) rfl h
  rcases h.form with ⟨q, _⟩ | ⟨g, c, rfl, _⟩
  · exact absurd q hl
  · exact ⟨g, c, rfl, hS g rfl, OwnX.of_flat (e := .int) rfl row (fun k hk => by cases hk; rfl), rfl⟩
end Go.Proofs.Ytkpobihpcnoemaa
