/- A list of flat data that is being built while the cursor draws; a number drawn among some. -/
import Derived.Test.YtnglgndocmkbfaaDrU
import Derived.Test.YtnglgndocmkbfaaShS
namespace Go.Proofs.Ytnglgndocmkbfaa
open Go.RowKit
set_option linter.unusedVariables false
set_option linter.unusedSimpArgs false

theorem Drew.grownX {w w' w'' : World} {g : Nat} {a : Option Addr} {n cap : Nat} {X : Nat → Int} {t : Nat} {row : Option Nat} (h : Drew g a n cap X t w w') (hg : w'.grownBy w'' row) (hgw : g < w.heap.size) (hne : ∀ j, row = some j → w.heap.size ≤ j) : Drew g a n cap X t w w'' := by
  refine ⟨h.1.grown hg (fun j hj => by have := hne j hj; omega), ⟨hg.os.trans h.2.1, hg.tape.trans h.2.2.1, hg.output.trans h.2.2.2.1, Nat.le_trans h.2.2.2.2.1 hg.size, fun k hk hx => ?_⟩⟩
  rw [hg.block k (Nat.lt_of_lt_of_le hk h.2.2.2.2.1) (fun e => by have := hne k e.symm; omega)]
  exact h.2.2.2.2.2 k hk hx
/-- A list of flat data that is being built while the cursor draws. -/
def DvH (e : Ty) (y : TypeId) (W w : World) (g : Nat) (a : Option Addr) (n cap : Nat) (X : Nat → Int) (t : Nat) (v : Value) (L : List e.T) : Prop := OwnX W w.heap.size (.list e y) [v] L (Btw w.heap.size W.heap.size) ∧ Drew g a n cap X t w W
section
variable {e : Ty} {y : TypeId} {W W' w : World} {g : Nat} {a : Option Addr} {n cap : Nat} {X : Nat → Int} {t t' : Nat} {v v' : Value} {L L2 : List e.T}
theorem DvH.draw (h : DvH e y W w g a n cap X t v L) (hd : Drew g a n cap X t' W W') (hg : g < w.heap.size) : DvH e y W' w g a n cap X t' v L :=
  ⟨(h.1.keep (fun k hk hs => hd.2.2.2.2.2 k hk (by have := hs.1; omega))).mono (fun k hk => ⟨hk.1, Nat.lt_of_lt_of_le hk.2 hd.2.2.2.2.1⟩), h.2.trans hd⟩
theorem DvH.alloc (h : DvH e y W w g a n cap X t v L) (o : Obj) : DvH e y (W.alloc o) w g a n cap X t v L :=
  ⟨(h.1.next (Go.Joins.below_alloc1 _ _)).mono (fun k hk => ⟨hk.1, Nat.lt_of_lt_of_le hk.2 (by simp)⟩), ⟨h.2.1.next (Go.Joins.below_alloc1 _ _), h.2.2.alloc _⟩⟩
theorem DvH.app {S : Nat → Prop} (he : e.flatB = true) (h : DvH e y W w g a n cap X t v L) (hg : g < w.heap.size) (hO : OwnX W' w.heap.size (.list e y) [v'] (L ++ L2) S) (hgr : W.grownBy W' v.ownBlock) : DvH e y W' w g a n cap X t v' (L ++ L2) := by
  obtain ⟨row, _⟩ := hO.flat he
  obtain ⟨row0, _⟩ := h.1.flat he
  exact ⟨OwnX.of_flat he row (fun k hk => row.lt k hk), h.2.grownX hgr hg (fun j hj => (row0.lt j hj).1)⟩
theorem DvH.set (h : DvH e y W w g a n cap X t v L) {b : Nat} (hg : g < w.heap.size) (hb : w.heap.size ≤ b) (hn : v.ownBlock ≠ some b) (he : e.flatB = true) (q : Nat) (u : Value) : DvH e y (W.setCell ⟨b, q, none⟩ u) w g a n cap X t v L := by
  obtain ⟨row, _⟩ := h.1.flat he
  have h1 : OwnX W w.heap.size (.list e y) [v] L (fun k => v.ownBlock = some k) := OwnX.of_flat he row (fun k hk => hk)
  have h2 := h1.set (p := ⟨b, q, none⟩) hn u
  refine ⟨h2.mono (fun k hk => by have := row.lt k hk; simp only [Btw, World.size_setCell]; exact this), h.2.out hg hb u⟩
end

theorem Bx.keepB {W W' : World} {b : Nat} {vs : List Value} (h : Bx W b vs) (hb : b < W.heap.size → W'.heap[b]? = W.heap[b]?) (hz : W.heap.size ≤ W'.heap.size) : Bx W' b vs :=
  ⟨fun j hj => ⟨(World.cell?_of_block (a := ⟨b, j, none⟩) (hb h.2)).trans (h.1 j hj).1, (World.frozen?_of_block (a := ⟨b, j, none⟩) (hb h.2)).trans (h.1 j hj).2⟩, Nat.lt_of_lt_of_le h.2 hz⟩
theorem OwnX.aform {W : World} {lo : Nat} {e : Ty} {t : TypeId} {a : Option Addr} {n c : Nat} {l : List e.T} {S : Nat → Prop} (h : OwnX W lo (.list e t) [.slice a n c] l S) : a = none ∨ ∃ gx, a = some ⟨gx, 0, none⟩ := by
  rcases h.form with ⟨_, e1⟩ | ⟨g, cap, e1, _⟩
  · cases e1; exact Or.inl rfl
  · cases e1; exact Or.inr ⟨g, rfl⟩
theorem snoc_len {α : Type} {l : List α} {x : α} {k : Nat} (h : l.length = k) : (l ++ [x]).length = k + 1 := by rw [List.length_append, h]; rfl

/-- The cells of a list of numbers that was just laid. -/
theorem int_new (w : World) (L : List Int) (e : TypeId) : ∀ i, i < L.length → (w.alloc (.cells (L.map (Value.int .i64)).toArray e)).cell? ⟨w.heap.size, i, none⟩ = some (.int .i64 (L.getD i 0)) := by
  intro i hi
  have := cells_new w (L.map (Value.int .i64)) e i (.int .i64 (L.getD i 0)) (by simp [List.getD, hi])
  have e1 : ((⟨w.heap.size, 0, none⟩ : Addr).add i) = ⟨w.heap.size, i, none⟩ := by unfold Addr.add; split <;> simp_all
  rw [e1] at this
  exact this
theorem int_small {L : List Int} {B : Int} (h : L.all (fun x => decide (-B ≤ x ∧ x ≤ B)) = true) : ∀ i, i < L.length → -B ≤ L.getD i 0 ∧ L.getD i 0 ≤ B := by
  intro i hi
  have := List.all_eq_true.1 h (L[i]) (List.getElem_mem hi)
  simpa [List.getD, hi] using this
set_option maxHeartbeats 400000 in
theorem amongL_any (g : Nat) (a : Option Addr) (n cap : Nat) (X : Nat → Int) (t : Nat) (l lc m : Nat) (Z : Nat → Int) (B : Int) (w : World) (ht : t ≤ 999990) (hc : Cur w g a n cap X t) (hl : l ≠ g) (hls : l < w.heap.size) (hm : 0 < m) (hm5 : m ≤ 20)
    (cs : ∀ i, i < m → w.cell? ⟨l, i, none⟩ = some (.int .i64 (Z i))) (zs : ∀ i, i < m → -B ≤ Z i ∧ Z i ≤ B) :
    Calls Try.prog 109 #[.pointer (some ⟨g, 0, none⟩), .slice (some ⟨l, 0, none⟩) m lc] w fun r w' => ∃ x : Int, (-B ≤ x ∧ x ≤ B) ∧ r = .returned (.int .i64 x) ∧ Drew g a n cap X (t + 2) w w' := by
  have HC : Hid (Cur w g a n cap X t) := hc
  have HZ : Hid ((∀ i, i < m → w.cell? ⟨l, i, none⟩ = some (.int .i64 (Z i))) ∧ ∀ i, i < m → -B ≤ Z i ∧ Z i ≤ B) := ⟨cs, zs⟩
  clear hc cs zs
  go_enter Try.func109, Try.ntmps109
  go_wp2_with fail
  refine (pick_any _ _ _ _ _ _ _ _ ht (by omega) HC.out).mono ?_
  rintro r w1 ⟨x, hx, rfl, hd⟩
  obtain ⟨i, him, hix⟩ : ∃ i : Nat, i < m ∧ x = (i : Int) := ⟨x.toNat, by omega, by omega⟩
  subst hix
  have H1 : Hid (Drew g a n cap X (t + 2) w w1) := hd
  have c0 := (World.cell?_of_block (a := ⟨l, i, none⟩) (hd.2.2.2.2.2 l hls (by omega))).trans (HZ.out.1 i him)
  have HZI := Hid.intro (HZ.out.2 i him)
  have him' : (i : Int) < (m : Int) := by omega
  clear hd HC HZ
  go_wp2
  go_ret
  exact ⟨Z i, HZI.out, rfl, H1.out⟩
end Go.Proofs.Ytnglgndocmkbfaa
