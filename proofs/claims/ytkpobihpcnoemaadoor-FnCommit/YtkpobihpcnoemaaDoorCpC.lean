/- Commits: one in a box with rows of its own; one replica turned in place. Written by tools/mkCpC.py. -/
import Derived.Test.YtkpobihpcnoemaaDoorCmL
namespace Go.Proofs.YtkpobihpcnoemaaDoor
open Go.RowKit
set_option linter.unusedVariables false
set_option linter.unusedSimpArgs false

def CmX (W : World) (b lo up : Nat) (v : Value) (ss : List Shd) (dr rc : Int) : Prop :=
  (Bx W b [v, .int .i64 dr, .int .i64 rc] ∧ up ≤ W.heap.size) ∧ ∃ S : Nat → Prop, OwnX W lo (.list tyShard 42) [v] ss S ∧ ∀ k, S k → lo ≤ k ∧ k < up ∧ k ≠ b
theorem CmX.next {W W' : World} {b lo up : Nat} {v : Value} {ss : List Shd} {dr rc : Int} (h : CmX W b lo up v ss dr rc) (hb : Below W.heap.size W W') : CmX W' b lo up v ss dr rc := by
  obtain ⟨h1, S, h2, h3⟩ := h
  exact ⟨⟨h1.1.next hb, Nat.le_trans h1.2 hb.size⟩, S, h2.next hb, h3⟩
theorem CmX.form {W : World} {b lo up : Nat} {v : Value} {ss : List Shd} {dr rc : Int} (h : CmX W b lo up v ss dr rc) : ∃ a c, v = .slice a ss.length c := by
  obtain ⟨_, S, h2, _⟩ := h; exact h2.vform
theorem CmX.lies {W : World} {b lo up : Nat} {v : Value} {ss : List Shd} {dr rc : Int} (h : CmX W b lo up v ss dr rc) : Lies W (.list shShard) [v] ss := by
  obtain ⟨_, S, h2, _⟩ := h; exact h2.lies
theorem CmX.lsx {W : World} {b lo up : Nat} {v : Value} {ss : List Shd} {dr rc : Int} (h : CmX W b lo up v ss dr rc) : LsX W lo v ss := by
  obtain ⟨h1, S, h2, h3⟩ := h; exact ⟨S, h2, fun k hk => ⟨(h3 k hk).1, Nat.lt_of_lt_of_le (h3 k hk).2.1 h1.2⟩⟩
/-- A list of shards is laid into a new box. -/
theorem CmX.box {W : World} {lo : Nat} {v : Value} {ss : List Shd} {dr rc : Int} (h : LsX W lo v ss) (t : TypeId) : CmX (W.alloc (.cells #[v, .int .i64 dr, .int .i64 rc] t)) W.heap.size lo (W.heap.size + 1) v ss dr rc := by
  obtain ⟨S, h2, h3⟩ := h
  have hb := Go.Joins.below_alloc1 W (.cells #[v, .int .i64 dr, .int .i64 rc] t)
  exact ⟨⟨Bx.new W [_, _, _] t, by simp⟩, S, h2.next hb, fun k hk => ⟨(h3 k hk).1, by have := (h3 k hk).2; omega, by have := (h3 k hk).2; omega⟩⟩
/-- What is decided is set. -/
theorem CmX.setD {W : World} {b lo up : Nat} {v : Value} {ss : List Shd} {dr rc : Int} (h : CmX W b lo up v ss dr rc) (d : Int) : CmX (W.setCell ⟨b, 1, none⟩ (.int .i64 d)) b lo up v ss d rc := by
  obtain ⟨h1, S, h2, h3⟩ := h
  exact ⟨⟨h1.1.set (k := 1) (by simp) _, by rw [World.size_setCell]; exact h1.2⟩, S, h2.set (p := ⟨b, 1, none⟩) (fun q => (h3 b q).2.2 rfl) _, h3⟩
theorem CmX.setR {W : World} {b lo up : Nat} {v : Value} {ss : List Shd} {dr rc : Int} (h : CmX W b lo up v ss dr rc) (d : Int) : CmX (W.setCell ⟨b, 2, none⟩ (.int .i64 d)) b lo up v ss dr d := by
  obtain ⟨h1, S, h2, h3⟩ := h
  exact ⟨⟨h1.1.set (k := 2) (by simp) _, by rw [World.size_setCell]; exact h1.2⟩, S, h2.set (p := ⟨b, 2, none⟩) (fun q => (h3 b q).2.2 rfl) _, h3⟩
/-- The row's cell of a shard. -/
theorem CmX.shard {W : World} {b lo up : Nat} {v : Value} {ss : List Shd} {dr rc : Int} (h : CmX W b lo up v ss dr rc) {i : Nat} (hi : i < ss.length) :
    ∃ q c ag c2, v = .slice (some ⟨q, 0, none⟩) ss.length c ∧ W.cell? ⟨q, i, none⟩ = some (.slice ag (srs ss[i]).length c2) ∧ q < W.heap.size ∧ Lies W (.list shReplica) [.slice ag (srs ss[i]).length c2] (srs ss[i]) := by
  obtain ⟨_, S, hO, hS⟩ := h
  obtain ⟨q, cap, ec, Bk, hv, hq, hlo, hSq, hB, hec, hcells, hroom, hOe, hch, hback⟩ := OwnX.lens (e := tyShard) hO hi
  obtain ⟨v1, S1, rfl, h1, e1⟩ := ownx_Shard (x0 := srs ss[i]) hOe
  obtain ⟨ag, c2, hv1⟩ := h1.vform
  have h0 := hcells 0 (by simp)
  have e : i * tyShard.c + 0 = i := by show i * 1 + 0 = i; omega
  rw [e] at h0
  subst hv1
  exact ⟨q, cap, ag, c2, hv, h0, hq, h1.lies⟩
/-- One replica: its cells, and the commit behind any turn of it. -/
structure RpX (W : World) (b lo up : Nat) (v : Value) (ss : List Shd) (dr rc : Int) (i j q c g c2 : Nat) (l : List Rpl) (r : Rpl) : Prop where
  di : i < ss.length
  dl : srs ss[i] = l
  dj : j < l.length
  dr' : l[j] = r
  hv : v = .slice (some ⟨q, 0, none⟩) ss.length c
  hs : W.cell? ⟨q, i, none⟩ = some (.slice (some ⟨g, 0, none⟩) l.length c2)
  hq : q < W.heap.size
  hd : W.cell? ⟨g, j * 2, none⟩ = some (.bool (rdn r))
  hh : W.cell? ⟨g, j * 2 + 1, none⟩ = some (.int .i64 (rhs r))
  fd : W.frozen? ⟨g, j * 2, none⟩ = false
  fh : W.frozen? ⟨g, j * 2 + 1, none⟩ = false
  hg : g < W.heap.size
  hlo : lo ≤ g
  hl : Lies W (.list shReplica) [.slice (some ⟨g, 0, none⟩) l.length c2] l
  hb : g ≠ b
  hhi : g < up
  hnq : g ≠ q
  set : ∀ d h, CmX ((W.setCell ⟨g, j * 2, none⟩ (.bool d)).setCell ⟨g, j * 2 + 1, none⟩ (.int .i64 h)) b lo up v (ss.set i (mkS (l.set j (mkR d h)))) dr rc
  has : ∀ h, CmX (W.setCell ⟨g, j * 2 + 1, none⟩ (.int .i64 h)) b lo up v (ss.set i (mkS (l.set j (mkR (rdn r) h)))) dr rc
theorem CmX.rep {W : World} {b lo up : Nat} {v : Value} {ss : List Shd} {dr rc : Int} (h : CmX W b lo up v ss dr rc) {i j : Nat} {l : List Rpl} {r : Rpl} (hi : i < ss.length) (hl : srs ss[i] = l) (hj : j < l.length) (hr : l[j] = r) :
    ∃ q c g c2, RpX W b lo up v ss dr rc i j q c g c2 l r := by
  subst hl
  subst hr
  obtain ⟨hbx, S, hO, hS⟩ := h
  obtain ⟨q, cap, ec, Bk, hv, hq, hlo, hSq, hB, hec, hcells, hroom, hOe, hch, hback⟩ := OwnX.lens (e := tyShard) hO hi
  obtain ⟨v1, S1, rfl, h1, e1⟩ := ownx_Shard (x0 := srs ss[i]) hOe
  obtain ⟨g, c2, ec2, Bk2, hv2, hg, hlo2, hSg, hB2, hec2, hcells2, hroom2, hOe2, hch2, hback2⟩ := OwnX.lens (e := tyReplica) h1 hj
  have hev := ownx_Replica (x0 := rdn (srs ss[i])[j]) (x1 := rhs (srs ss[i])[j]) hOe2
  subst hev
  have hgq : g ≠ q := (hB g (e1 g hSg)).2
  have hgS := hS g (hB g (e1 g hSg)).1
  have h0 := hcells 0 (by simp)
  have e : i * tyShard.c + 0 = i := by show i * 1 + 0 = i; omega
  rw [e] at h0
  have hd := hcells2 0 (by simp)
  have hh := hcells2 1 (by simp)
  have hrm : ∀ k, k < 2 → (W.frozen? ⟨g, j * 2 + k, none⟩ = false) := fun k hk => (hroom2 (j * 2 + k) (by show j * 2 + k < (srs ss[i]).length * 2; omega)).2
  have back : ∀ (W' : World) (d : Bool) (n : Int), Bx W' b [v, .int .i64 dr, .int .i64 rc] → W'.heap.size = W.heap.size → (∀ k, k ≠ g → W'.heap[k]? = W.heap[k]?) → Chunk W W' 44 g (j * tyReplica.c) [.bool d, .int .i64 n] → CmX W' b lo up v (ss.set i (mkS ((srs ss[i]).set j (mkR d n)))) dr rc := by
    intro W' d n hx hsz hk hc
    have i1 := hback2 W' [.bool d, .int .i64 n] (mkR d n) Bk2 (fun _ => False) (fun k _ _ hk2 _ => hk k hk2) hc mkownx_Replica (fun k hk => Or.inl hk) (fun k hk => hk.elim)
    have i2 := hback W' [v1] (mkS ((srs ss[i]).set j (mkR d n))) Bk (fun _ => False) (fun k _ hkS hkq hkB => hk k (fun q => hkB (q ▸ e1 g hSg))) (hch.keep (hk q (Ne.symm hgq))) (mkownx_Shard i1 (fun k hk => e1 k (hk.elim id False.elim))) (fun k hk => Or.inl hk) (fun k hk => hk.elim)
    exact ⟨⟨hx, by rw [hsz]; exact hbx.2⟩, S, i2.mono (fun k hk => hk.elim id False.elim), hS⟩
  refine ⟨q, cap, g, c2, ⟨hi, rfl, hj, rfl, hv, by rw [hv2] at h0; exact h0, hq, hd, hh, hrm 0 (by omega), hrm 1 (by omega), hg, hgS.1, by have := h1.lies; rwa [hv2] at this, hgS.2.2, hgS.2.1, hgq, fun d n => ?_, fun n => ?_⟩⟩
  · refine back _ d n ((hbx.1.other (Ne.symm hgS.2.2)).other (Ne.symm hgS.2.2)) (by simp) (fun k hk => ?_) ((hch2.set (j := 0) (by simp) (.bool d)).set (j := 1) (by simp) (.int .i64 n))
    rw [Below.heap_setCell _ _ _ _ hk, Below.heap_setCell _ _ _ _ hk]
  · exact back _ _ n (hbx.1.other (Ne.symm hgS.2.2)) (by simp) (fun k hk => Below.heap_setCell _ _ _ _ hk) (hch2.set (j := 1) (by simp) (.int .i64 n))
theorem RpX.next {W W' : World} {b lo up : Nat} {v : Value} {ss : List Shd} {dr rc : Int} {i j q c g c2 : Nat} {l : List Rpl} {r : Rpl} (h : RpX W b lo up v ss dr rc i j q c g c2 l r) (hc : CmX W b lo up v ss dr rc) (hi : i < ss.length) (hl : srs ss[i] = l) (hj : j < l.length) (hr : l[j] = r) (hb : Below W.heap.size W W') : RpX W' b lo up v ss dr rc i j q c g c2 l r := by
  obtain ⟨q', c', g', c2', h'⟩ := (hc.next hb).rep hi hl hj hr
  have e1 := h'.hv
  rw [h.hv] at e1
  simp only [Value.slice.injEq, Option.some.injEq, Addr.mk.injEq, and_true, true_and] at e1
  obtain ⟨rfl, rfl⟩ := e1
  have e2 := h'.hs
  rw [(hb.cell (p := ⟨q, i, none⟩) h.hq).trans h.hs] at e2
  simp only [Option.some.injEq, Value.slice.injEq, Addr.mk.injEq, and_true, true_and] at e2
  obtain ⟨rfl, rfl⟩ := e2
  exact h'
theorem RpX.carry {W W' : World} {b lo up : Nat} {v : Value} {ss : List Shd} {dr rc : Int} {i j q c g c2 : Nat} {l : List Rpl} {r : Rpl} (h : RpX W b lo up v ss dr rc i j q c g c2 l r) (hc : CmX W b lo up v ss dr rc) (hb : Below W.heap.size W W') : RpX W' b lo up v ss dr rc i j q c g c2 l r :=
  h.next hc h.di h.dl h.dj h.dr' hb
/-- Behind a turn of the replica its shard's row lies where it lay. -/
theorem RpX.turned {W W' : World} {b lo up : Nat} {v : Value} {ss : List Shd} {dr rc : Int} {i j q c g c2 : Nat} {l : List Rpl} {r y : Rpl} (h : RpX W b lo up v ss dr rc i j q c g c2 l r) (hi : i < ss.length) (hc : CmX W' b lo up v (ss.set i (mkS (l.set j y))) dr rc) (hs : W'.cell? ⟨q, i, none⟩ = W.cell? ⟨q, i, none⟩) : Lies W' (.list shReplica) [.slice (some ⟨g, 0, none⟩) l.length c2] (l.set j y) := by
  obtain ⟨q', c', ag, c2', e1, e2, _, e4⟩ := hc.shard (i := i) (by rw [List.length_set]; exact hi)
  rw [h.hv] at e1
  simp only [Value.slice.injEq, Option.some.injEq, Addr.mk.injEq, and_true, true_and] at e1
  obtain ⟨rfl, _⟩ := e1
  have e5 : srs (ss.set i (mkS (l.set j y)))[i] = l.set j y := by rw [List.getElem_set_self]; rfl
  rw [e5] at e2 e4
  rw [hs, h.hs] at e2
  simp only [Option.some.injEq, Value.slice.injEq] at e2
  obtain ⟨rfl, e6, rfl⟩ := e2
  rw [← e6] at e4
  exact e4
end Go.Proofs.YtkpobihpcnoemaaDoor
