/- Fences: one member of a fence of one's own, turned and put back; what a step leaves. No walk is here. -/
import Derived.Test.YtcbdlalpnlahcaaFeZ
namespace Go.Proofs.Ytcbdlalpnlahcaa
open Go.RowKit
set_option linter.unusedVariables false
set_option linter.unusedSimpArgs false

theorem len4 {l : List Value} (h : l.length = 4) : ∃ a b c d, l = [a, b, c, d] := by
  match l, h with
  | [a, b, c, d], _ => exact ⟨a, b, c, d, rfl⟩
/-- One member: its cells in the row; and put back, whatever else has turned. -/
theorem fe_lens {w : World} {lo : Nat} {S1 : Nat → Prop} {v1 : Value} {ms : List (Sh.T shMember)} (h : OwnX w lo (.list tyMember 37) [v1] ms S1) {i : Nat} (hi : i < ms.length) :
    ∃ g cap vr, ∃ Bk : Nat → Prop, v1 = .slice (some ⟨g, 0, none⟩) (List.length (α := Sh.T shMember) ms) cap ∧ g < w.heap.size ∧ S1 g ∧ (∀ b, Bk b → S1 b ∧ b ≠ g) ∧
      (w.cell? ⟨g, i * 4, none⟩ = some (.int .i64 (mid ms[i])) ∧ w.cell? ⟨g, i * 4 + 1, none⟩ = some (.int .i64 (mep ms[i])) ∧ w.cell? ⟨g, i * 4 + 2, none⟩ = some vr ∧ w.cell? ⟨g, i * 4 + 3, none⟩ = some (.int .i64 (mac ms[i]))) ∧
      (w.frozen? ⟨g, i * 4, none⟩ = false ∧ w.frozen? ⟨g, i * 4 + 1, none⟩ = false ∧ w.frozen? ⟨g, i * 4 + 2, none⟩ = false ∧ w.frozen? ⟨g, i * 4 + 3, none⟩ = false) ∧ OwnX w lo (.list .int 3) [vr] (mru ms[i]) Bk ∧
      ∀ (W : World) (y0 y1 : Int) (vy : Value) (y2 : List (Sh.T .int)) (y3 : Int) (B' F : Nat → Prop), (∀ b, b < w.heap.size → S1 b → ¬ Bk b → W.heap[b]? = w.heap[b]?) → OwnX W lo (.list .int 3) [vy] y2 B' → (∀ b, B' b → Bk b ∨ F b) → (∀ b, F b → ¬ S1 b) →
        OwnX ((((W.setCell ⟨g, i * 4, none⟩ (.int .i64 y0)).setCell ⟨g, i * 4 + 1, none⟩ (.int .i64 y1)).setCell ⟨g, i * 4 + 2, none⟩ vy).setCell ⟨g, i * 4 + 3, none⟩ (.int .i64 y3)) lo (.list tyMember 37) [v1] (ms.set i (mkMb y0 y1 y2 y3)) (fun b => S1 b ∨ F b) := by
  obtain ⟨g, cap, ec, Bk, hv, hg, hlg, hSg, hB, hel, hC, hR, hO, hch, hput⟩ := OwnX.lens h hi
  have hel : ec.length = 4 := hel
  have hm : ms[i] = (mid ms[i], mep ms[i], mru ms[i], mac ms[i], ()) := rfl
  have hO' : OwnX w lo tyMember ec (mid ms[i], mep ms[i], mru ms[i], mac ms[i], ()) Bk := hO
  obtain ⟨vr, B1, rfl, hr, hB1⟩ := ownx_Member hO'
  have hR : Room w g (ms.length * 4) := hR
  refine ⟨g, cap, vr, Bk, hv, hg, hSg, hB, ⟨hC 0 (by simp), hC 1 (by simp), hC 2 (by simp), hC 3 (by simp)⟩, ⟨(hR (i * 4) (by omega)).2, (hR (i * 4 + 1) (by omega)).2, (hR (i * 4 + 2) (by omega)).2, (hR (i * 4 + 3) (by omega)).2⟩, hr.mono hB1, fun W y0 y1 vy y2 y3 B' F hW hy hB' hF => ?_⟩
  have hgB : ¬ Bk g := fun q => (hB g q).2 rfl
  have hc0 : Chunk w W 37 g (i * 4) [.int .i64 (mid ms[i]), .int .i64 (mep ms[i]), vr, .int .i64 (mac ms[i])] := hch.keep (hW g hg hSg hgB)
  have hc1 := (((hc0.set (j := 0) (by simp) (.int .i64 y0)).set (j := 1) (by simp) (.int .i64 y1)).set (j := 2) (by simp) vy).set (j := 3) (by simp) (.int .i64 y3)
  have hy' : OwnX ((((W.setCell ⟨g, i * 4, none⟩ (.int .i64 y0)).setCell ⟨g, i * 4 + 1, none⟩ (.int .i64 y1)).setCell ⟨g, i * 4 + 2, none⟩ vy).setCell ⟨g, i * 4 + 3, none⟩ (.int .i64 y3)) lo (.list .int 3) [vy] y2 B' := by
    have hn : ¬ B' g := fun q => by
      rcases hB' g q with r | r
      · exact hgB r
      · exact hF g r hSg
    exact (((hy.set (p := ⟨g, i * 4, none⟩) hn _).set (p := ⟨g, i * 4 + 1, none⟩) hn _).set (p := ⟨g, i * 4 + 2, none⟩) hn _).set (p := ⟨g, i * 4 + 3, none⟩) hn _
  refine hput _ [.int .i64 y0, .int .i64 y1, vy, .int .i64 y3] (mkMb y0 y1 y2 y3) B' F (fun b hb hs hne hk => ?_) hc1 (mkownx_Member (x0 := y0) (x1 := y1) (x3 := y3) hy' (fun k e => e)) hB' hF
  have e := hW b hb hs hk
  rw [Below.heap_setCell _ _ _ _ hne, Below.heap_setCell _ _ _ _ hne, Below.heap_setCell _ _ _ _ hne, Below.heap_setCell _ _ _ _ hne]
  exact e
/-- The boxes of a step's variables: the fence, the step, the answer, the member. -/
def SpB (w W : World) (cf st cm : List Value) (bm : Nat) : Prop := Bx W w.heap.size cf ∧ Bx W (w.heap.size + 1) st ∧ Bx W (w.heap.size + 1 + 1) [.int .i64 0, .int .i64 0, .slice none 0 0, .slice none 0 0] ∧ Bx W bm cm ∧ w.heap.size + 1 + 1 < bm
theorem StX.fin {lo : Nat} {S T1 T2 : Nat → Prop} {A : Option (Sh.T shFence)} {w W : World} {ep du : Int} {v1 v2 : Value} {ms : List (Sh.T shMember)} {en : List (Sh.T .int)} (hA : A = some (mkFe ep du ms en)) (ht : TurnS S w W) (h1 : OwnX W lo (.list tyMember 37) [v1] ms T1) (h2 : OwnX W lo (.list .int 3) [v2] en T2)
    (e1 : ∀ k, T1 k → (S k ∨ Btw w.heap.size W.heap.size k) ∧ k ≠ w.heap.size + 1 + 1) (e2 : ∀ k, T2 k → (S k ∨ Btw w.heap.size W.heap.size k) ∧ k ≠ w.heap.size + 1 + 1) (d : ∀ k, T1 k → ¬ T2 k) :
    StX lo S A w (.returned (.tuple #[.agg #[.int .i64 ep, .int .i64 du, v1, v2], .bool true])) ((((W.setCell ⟨w.heap.size + 1 + 1, 0, none⟩ (.int .i64 ep)).setCell ⟨w.heap.size + 1 + 1, 1, none⟩ (.int .i64 du)).setCell ⟨w.heap.size + 1 + 1, 2, none⟩ v1).setCell ⟨w.heap.size + 1 + 1, 3, none⟩ v2) := by
  have hs := set4 W (w.heap.size + 1 + 1) (.int .i64 ep) (.int .i64 du) v1 v2
  have hz := hs.size
  have hF : Fe4 [.int .i64 ep, .int .i64 du, v1, v2] := by
    obtain ⟨a, c, rfl⟩ := h1.vform
    obtain ⟨a', c', rfl⟩ := h2.vform
    exact ⟨_, _, _, _, _, _, _, _, rfl⟩
  refine StX.yes (cs := [.int .i64 ep, .int .i64 du, v1, v2]) hA (ht.new hs (by omega)) (mkownx_Fence (x0 := ep) (x1 := du) (h1.turn hs (fun k hk q => (e1 k hk).2 q)) (h2.turn hs (fun k hk q => (e2 k hk).2 q)) (fun k hk => ?_) (fun k hk => ?_) d) hF
  · rcases (e1 k hk).1 with q | q
    · exact Or.inl q
    · exact Or.inr (by simp only [Btw] at q ⊢; omega)
  · rcases (e2 k hk).1 with q | q
    · exact Or.inl q
    · exact Or.inr (by simp only [Btw] at q ⊢; omega)
theorem stF_mem {ep du : Int} {ms : List (Sh.T shMember)} {en : List (Sh.T .int)} {a b n : Int} {i : Nat} (h : a ≠ 4) (hf : ms.findIdx? (fun m => decide (mid m = b)) = some i) (hi : i < ms.length) : stF ep du ms en a b n = memF ep du ms en a n i ms[i] := by
  unfold stF
  rw [if_neg h, hf]
  simp only [List.getElem?_eq_getElem hi]
theorem atM_some {ms : List (Sh.T shMember)} {b : Int} {i : Nat} (hf : ms.findIdx? (fun m => decide (mid m = b)) = some i) : atM ms b = (i : Int) := by unfold atM; rw [hf]
theorem atM_none {ms : List (Sh.T shMember)} {b : Int} (hf : ms.findIdx? (fun m => decide (mid m = b)) = none) : atM ms b = -1 := by unfold atM; rw [hf]
/-- A step has turned one member, which is put back. -/
theorem fe_tail {lo i g k1 : Nat} {S S1 S2 Bk T B' E' : Nat → Prop} {A : Option (Sh.T shFence)} {w X : World} {ep' du' y0 y1 y3 : Int} {vy ve : Value} {ms : List (Sh.T shMember)} {en' : List (Sh.T .int)} {y2 : List (Sh.T .int)}
    (hput : ∀ (W : World) (y0 y1 : Int) (vy : Value) (y2 : List (Sh.T .int)) (y3 : Int) (B' F : Nat → Prop), (∀ b, b < w.heap.size → S1 b → ¬ Bk b → W.heap[b]? = w.heap[b]?) → OwnX W lo (.list .int 3) [vy] y2 B' → (∀ b, B' b → Bk b ∨ F b) → (∀ b, F b → ¬ S1 b) →
        OwnX ((((W.setCell ⟨g, i * 4, none⟩ (.int .i64 y0)).setCell ⟨g, i * 4 + 1, none⟩ (.int .i64 y1)).setCell ⟨g, i * 4 + 2, none⟩ vy).setCell ⟨g, i * 4 + 3, none⟩ (.int .i64 y3)) lo (.list tyMember 37) [.slice (some ⟨g, 0, none⟩) ms.length k1] (ms.set i (mkMb y0 y1 y2 y3)) (fun b => S1 b ∨ F b))
    (hSg : S1 g) (hBk : ∀ b, Bk b → S1 b ∧ b ≠ g) (hO : (∀ k, S1 k → S k) ∧ (∀ k, S2 k → S k) ∧ (∀ k, S1 k → ¬ S2 k) ∧ (∀ k, S k → k < w.heap.size)) (hT : TurnS T w X) (hTs : ∀ k, T k → Bk k ∨ S2 k) (oy : OwnX X lo (.list .int 3) [vy] y2 B') (oe : OwnX X lo (.list .int 3) [ve] en' E')
    (hB' : ∀ k, B' k → Bk k ∨ (w.heap.size ≤ k ∧ k < X.heap.size ∧ k ≠ w.heap.size + 1 + 1)) (hE' : ∀ k, E' k → S2 k ∨ (w.heap.size ≤ k ∧ k < X.heap.size ∧ k ≠ w.heap.size + 1 + 1)) (hd : ∀ k, B' k → ¬ E' k) (hA : A = some (mkFe ep' du' (ms.set i (mkMb y0 y1 y2 y3)) en')) :
    StX lo S A w (.returned (.tuple #[.agg #[.int .i64 ep', .int .i64 du', .slice (some ⟨g, 0, none⟩) ms.length k1, ve], .bool true])) ((((((((X.setCell ⟨g, i * 4, none⟩ (.int .i64 y0)).setCell ⟨g, i * 4 + 1, none⟩ (.int .i64 y1)).setCell ⟨g, i * 4 + 2, none⟩ vy).setCell ⟨g, i * 4 + 3, none⟩ (.int .i64 y3)).setCell ⟨w.heap.size + 1 + 1, 0, none⟩ (.int .i64 ep')).setCell ⟨w.heap.size + 1 + 1, 1, none⟩ (.int .i64 du')).setCell ⟨w.heap.size + 1 + 1, 2, none⟩ (.slice (some ⟨g, 0, none⟩) ms.length k1)).setCell ⟨w.heap.size + 1 + 1, 3, none⟩ ve) := by
  obtain ⟨e1, e2, d12, hS⟩ := hO
  have hgS := e1 g hSg
  have o1 := hput X y0 y1 vy y2 y3 B' (fun b => B' b ∧ w.heap.size ≤ b) (fun b hb hs hk => hT.block hb (fun q => by
      rcases hTs b q with r | r
      · exact hk r
      · exact d12 b hs r)) oy (fun b hb => by
      rcases hB' b hb with r | r
      · exact Or.inl r
      · exact Or.inr ⟨hb, r.1⟩) (fun b hb q => by have := hS b (e1 b q); have := hb.2; omega)
  have hgE : ¬ E' g := fun q => by
    rcases hE' g q with r | r
    · exact d12 g hSg r
    · have := hS g hgS; omega
  have o2 : OwnX ((((X.setCell ⟨g, i * 4, none⟩ (.int .i64 y0)).setCell ⟨g, i * 4 + 1, none⟩ (.int .i64 y1)).setCell ⟨g, i * 4 + 2, none⟩ vy).setCell ⟨g, i * 4 + 3, none⟩ (.int .i64 y3)) lo (.list .int 3) [ve] en' E' :=
    (((oe.set (p := ⟨g, i * 4, none⟩) hgE _).set (p := ⟨g, i * 4 + 1, none⟩) hgE _).set (p := ⟨g, i * 4 + 2, none⟩) hgE _).set (p := ⟨g, i * 4 + 3, none⟩) hgE _
  have hTS : TurnS S w ((((X.setCell ⟨g, i * 4, none⟩ (.int .i64 y0)).setCell ⟨g, i * 4 + 1, none⟩ (.int .i64 y1)).setCell ⟨g, i * 4 + 2, none⟩ vy).setCell ⟨g, i * 4 + 3, none⟩ (.int .i64 y3)) := by
    have h0 : TurnS S w X := hT.wide (fun k q => by
      rcases hTs k q with r | r
      · exact e1 k (hBk k r).1
      · exact e2 k r)
    exact (((h0.set (p := ⟨g, i * 4, none⟩) hgS _).set (p := ⟨g, i * 4 + 1, none⟩) hgS _).set (p := ⟨g, i * 4 + 2, none⟩) hgS _).set (p := ⟨g, i * 4 + 3, none⟩) hgS _
  refine StX.fin (T1 := fun b => S1 b ∨ (B' b ∧ w.heap.size ≤ b)) (T2 := E') hA hTS o1 o2 (fun k hk => ?_) (fun k hk => ?_) (fun k hk q => ?_)
  · rcases hk with r | ⟨r, r2⟩
    · exact ⟨Or.inl (e1 k r), by have := hS k (e1 k r); omega⟩
    · rcases hB' k r with q | q
      · have := hS k (e1 k (hBk k q).1); omega
      · exact ⟨Or.inr (by simp only [Btw, World.size_setCell]; omega), q.2.2⟩
  · rcases hE' k hk with r | r
    · exact ⟨Or.inl (e2 k r), by have := hS k (e2 k r); omega⟩
    · exact ⟨Or.inr (by simp only [Btw, World.size_setCell]; omega), r.2.2⟩
  · rcases hk with r | ⟨r, r2⟩
    · rcases hE' k q with z | z
      · exact d12 k r z
      · have := hS k (e1 k r); omega
    · exact hd k r q
section
variable {ep du : Int} {ms : List (Sh.T shMember)} {en : List (Sh.T .int)} {n : Int} {i : Nat} {x0 x1 x3 : Int} {x2 : List (Sh.T .int)}
theorem memF1_no (h : x2.length = 20 ∨ en.length + runT ms = 200) : memF ep du ms en 1 n i (mkMb x0 x1 x2 x3) = none := by unfold memF; rw [if_pos rfl]; exact if_pos h
theorem memF1_yes (h : ¬ (x2.length = 20 ∨ en.length + runT ms = 200)) : memF ep du ms en 1 n i (mkMb x0 x1 x2 x3) = some (mkFe ep du (ms.set i (mkMb x0 x1 (x2 ++ [x1]) x3)) en) := by unfold memF; rw [if_pos rfl]; exact if_neg h
theorem memF2_no (h : ¬ (0 ≤ n ∧ n ≤ (x2.length : Int) - 1)) : memF ep du ms en 2 n i (mkMb x0 x1 x2 x3) = none := by unfold memF; rw [if_neg (by decide), if_pos rfl]; exact if_neg h
theorem memF2_yes (h : 0 ≤ n ∧ n ≤ (x2.length : Int) - 1) : memF ep du ms en 2 n i (mkMb x0 x1 x2 x3) = some (mkFe ep du (ms.set i (mkMb x0 x1 (x2.eraseIdx n.toNat) x3)) (en ++ [atI x2 n.toNat])) := by unfold memF; rw [if_neg (by decide), if_pos rfl]; exact if_pos h
theorem memF3_no (h : x1 ≠ ep ∨ x3 = ep - 1 ∨ 0 < x2.length ∧ atI x2 0 ≤ ep - 1) : memF ep du ms en 3 n i (mkMb x0 x1 x2 x3) = none := by unfold memF; rw [if_neg (by decide), if_neg (by decide), if_pos rfl]; exact if_pos h
theorem memF3_yes (h : ¬ (x1 ≠ ep ∨ x3 = ep - 1 ∨ 0 < x2.length ∧ atI x2 0 ≤ ep - 1)) : memF ep du ms en 3 n i (mkMb x0 x1 x2 x3) = some (mkFe ep du (ms.set i (mkMb x0 x1 x2 (ep - 1))) en) := by unfold memF; rw [if_neg (by decide), if_neg (by decide), if_pos rfl]; exact if_neg h
theorem memF6_no (h : x1 = ep) : memF ep du ms en 6 n i (mkMb x0 x1 x2 x3) = none := by unfold memF; rw [if_neg (by decide), if_neg (by decide), if_neg (by decide), if_pos rfl]; exact if_pos h
theorem memF6_yes (h : ¬ x1 = ep) : memF ep du ms en 6 n i (mkMb x0 x1 x2 x3) = some (mkFe ep du (ms.set i (mkMb x0 ep x2 x3)) en) := by unfold memF; rw [if_neg (by decide), if_neg (by decide), if_neg (by decide), if_pos rfl]; exact if_neg h
theorem memF5_no (h : ms.length = 1) : memF ep du ms en 5 n i (mkMb x0 x1 x2 x3) = none := by unfold memF; rw [if_neg (by decide), if_neg (by decide), if_neg (by decide), if_neg (by decide), if_pos rfl]; exact if_pos h
theorem memF5_yes (h : ¬ ms.length = 1) : memF ep du ms en 5 n i (mkMb x0 x1 x2 x3) = some (mkFe ep du (ms.eraseIdx i) en) := by unfold memF; rw [if_neg (by decide), if_neg (by decide), if_neg (by decide), if_neg (by decide), if_pos rfl]; exact if_neg h
end
theorem OwnX.tight {W : World} {lo : Nat} {e : Ty} {t : TypeId} {v : Value} {l : List e.T} {S : Nat → Prop} (he : e.flatB = true) (h : OwnX W lo (.list e t) [v] l S) : OwnX W lo (.list e t) [v] l (fun k => v.ownBlock = some k) ∧ (∀ k, v.ownBlock = some k → lo ≤ k ∧ k < W.heap.size) ∧ ∀ k, v.ownBlock = some k → S k := by
  obtain ⟨row, hs⟩ := h.flat he
  exact ⟨OwnX.of_flat he row (fun k q => q), fun k q => row.lt k q, hs⟩
theorem turn_grown {w Y W9 : World} {row : Option Nat} {Bk : Nat → Prop} (hb : Below w.heap.size w Y) (hg : Y.grownBy W9 row) (hr : ∀ k, row = some k → Bk k) : TurnS Bk w W9 :=
  ⟨hg.os.trans hb.os, hg.tape.trans hb.tape, hg.output.trans hb.output, Nat.le_trans hb.size hg.size, fun k hk hs => (hg.block k (Nat.lt_of_lt_of_le hk hb.size) (fun q => hs (hr k q.symm))).trans (hb.block k hk)⟩
theorem TurnS.grown {T : Nat → Prop} {w Y W9 : World} {row : Option Nat} (h : TurnS T w Y) (hg : Y.grownBy W9 row) (hr : ∀ k, row = some k → T k ∨ w.heap.size ≤ k) : TurnS T w W9 :=
  ⟨hg.os.trans h.1, hg.tape.trans h.2.1, hg.output.trans h.2.2.1, Nat.le_trans h.2.2.2.1 hg.size, fun k hk hs => (hg.block k (Nat.lt_of_lt_of_le hk h.2.2.2.1) (fun q => by
    rcases hr k q.symm with r | r
    · exact hs r
    · omega)).trans (h.2.2.2.2 k hk hs)⟩
section
variable {w W W9 : World} {cf st cm : List Value} {bm : Nat}
theorem SpB.next (h : SpB w W cf st cm bm) (hb : Below W.heap.size W W9) : SpB w W9 cf st cm bm := ⟨h.1.next hb, h.2.1.next hb, h.2.2.1.next hb, h.2.2.2.1.next hb, h.2.2.2.2⟩
theorem SpB.grow {row : Option Nat} (h : SpB w W cf st cm bm) (hg : W.grownBy W9 row) (hr : ∀ k, row = some k → k < w.heap.size ∨ bm < k) : SpB w W9 cf st cm bm := by
  have h5 := h.2.2.2.2
  refine ⟨h.1.grow hg (fun q => ?_), h.2.1.grow hg (fun q => ?_), h.2.2.1.grow hg (fun q => ?_), h.2.2.2.1.grow hg (fun q => ?_), h5⟩
  all_goals (have := hr _ q.symm; omega)
theorem SpB.setM (h : SpB w W cf st cm bm) {j : Nat} (hj : j < cm.length) (v : Value) : SpB w (W.setCell ⟨bm, j, none⟩ v) cf st (cm.set j v) bm := by
  have h5 := h.2.2.2.2
  exact ⟨h.1.other (by show w.heap.size ≠ bm; omega), h.2.1.other (by show w.heap.size + 1 ≠ bm; omega), h.2.2.1.other (by show w.heap.size + 1 + 1 ≠ bm; omega), h.2.2.2.1.set hj v, h5⟩
theorem SpB.setF (h : SpB w W cf st cm bm) {j : Nat} (hj : j < cf.length) (v : Value) : SpB w (W.setCell ⟨w.heap.size, j, none⟩ v) (cf.set j v) st cm bm := by
  have h5 := h.2.2.2.2
  exact ⟨h.1.set hj v, h.2.1.other (by show w.heap.size + 1 ≠ w.heap.size; omega), h.2.2.1.other (by show w.heap.size + 1 + 1 ≠ w.heap.size; omega), h.2.2.2.1.other (by show bm ≠ w.heap.size; omega), h5⟩
end
theorem drop_lies {W : World} {g len cap k : Nat} {l : List (Sh.T .int)} (h : Lies W (.list .int) [.slice (some ⟨g, 0, none⟩) len cap] l) (hl : l.length = len) (hk : k + 1 ≤ len) (hc : len ≤ cap) (hm : cap ≤ maxLen) : Lies W (.list .int) [.slice (if cap = k + 1 then some ⟨g, 0, none⟩ else some ⟨g, k + 1, none⟩) (l.drop (k + 1)).length (cap - (k + 1))] (l.drop (k + 1)) := by
  subst hl
  by_cases q : cap = k + 1
  · have e : l.drop (k + 1) = [] := List.drop_eq_nil_of_le (by omega)
    rw [e]
    exact ⟨_, _, rfl, by simp, by omega, Or.inl rfl⟩
  · rw [if_neg q, List.length_drop]
    have := lies_drop h (k + 1) hk
    rw [show (0 + (k + 1) * Sh.c .int : Nat) = k + 1 from by simp [Sh.c]] at this
    exact this
theorem ready_three {P : Program} {ops : Array Oper} {Q : Exit → Act → World → Prop} {md : Region.Mode} {S : World → Prop} {fuel : Nat} {listed : Array Bool} {a : Act} {w : World} (i j k : Nat) (o p r : Oper)
    (hr : Region.ready md ops listed = [i, j, k]) (ho : ops[i]? = some o) (hp : ops[j]? = some p) (hq : ops[k]? = some r) (hg : Region.wanted o (yielded ops a.tmps) = true) (hg' : Region.wanted p (yielded ops a.tmps) = true) (hg2 : Region.wanted r (yielded ops a.tmps) = true)
    (h : ∀ K' : Act → World → Prop, Shut (∀ a w, S w → (S w → wpAnyH P md ops Q S fuel (listed.setIfInBounds i true) a w) → K' a w) → Oper.wp P o a w K' Q)
    (h' : ∀ K' : Act → World → Prop, Shut (∀ a w, S w → (S w → wpAnyH P md ops Q S fuel (listed.setIfInBounds j true) a w) → K' a w) → Oper.wp P p a w K' Q)
    (h2 : ∀ K' : Act → World → Prop, Shut (∀ a w, S w → (S w → wpAnyH P md ops Q S fuel (listed.setIfInBounds k true) a w) → K' a w) → Oper.wp P r a w K' Q) : wpAnyH P md ops Q S (fuel + 1) listed a w :=
  wpAnyH_ready hr (by simp) (AllReadyH.cons ho (fun K' hK => by rw [if_pos hg]; exact h K' hK) (AllReadyH.cons hp (fun K' hK => by rw [if_pos hg']; exact h' K' hK) (AllReadyH.cons hq (fun K' hK => by rw [if_pos hg2]; exact h2 K' hK) AllReadyH.nil)))
end Go.Proofs.Ytcbdlalpnlahcaa
