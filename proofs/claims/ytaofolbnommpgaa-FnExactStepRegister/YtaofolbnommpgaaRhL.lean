/- Registers: one op and one node's copy: what a step may turn. -/
import Derived.Test.YtaofolbnommpgaaMgB
import Derived.Test.YtaofolbnommpgaaRhI
import Derived.Test.YtaofolbnommpgaaShM
namespace Go.Proofs.Ytaofolbnommpgaa
open Go.RowKit
set_option linter.unusedVariables false
set_option linter.unusedSimpArgs false

theorem Chunk.cell {W W' : World} {t : TypeId} {g o : Nat} {ec : List Value} (h : Chunk W W' t g o ec) {j : Nat} {v : Value} (hv : ec[j]? = some v) : W'.cell? ⟨g, o + j, none⟩ = some v := by
  obtain ⟨cur, cur', h0, h1, h2, h3⟩ := h
  have hj : j < ec.length := by
    rcases Nat.lt_or_ge j ec.length with q | q
    · exact q
    · rw [List.getElem?_eq_none q] at hv; cases hv
  rw [Go.Joins.cell_of_block h1, h3, if_pos (by omega), show o + j - o = j by omega]
  exact hv
theorem Chunk.frz {W W' : World} {t : TypeId} {g o : Nat} {ec : List Value} (h : Chunk W W' t g o ec) (j : Nat) : W'.frozen? ⟨g, j, none⟩ = false := by
  obtain ⟨cur, cur', h0, h1, _⟩ := h
  exact Go.Joins.unfrozen_of_block h1 j
theorem Chunk.lt {W W' : World} {t : TypeId} {g o : Nat} {ec : List Value} (h : Chunk W W' t g o ec) : g < W'.heap.size := by
  obtain ⟨cur, cur', h0, h1, _⟩ := h
  rcases Nat.lt_or_ge g W'.heap.size with q | q
  · exact q
  · rw [Array.getElem?_eq_none q] at h1; cases h1
theorem ownsRow_grown {W W' : World} {row : Option Nat} {base : Nat} {e : TypeId} {size : Nat} {v : Value} {n : Nat} {xs : List Value} (h : W.ownsRow base e size v n xs) (hg : W.grownBy W' row) (hne : ∀ k, v.ownBlock = some k → row ≠ some k) : W'.ownsRow base e size v n xs := by
  obtain ⟨q0, q1⟩ := h
  refine ⟨q0, ?_⟩
  rcases q1 with q1 | ⟨g, cap, cur, hv, hgb, hh, r⟩
  · exact Or.inl q1
  · refine Or.inr ⟨g, cap, cur, hv, hgb, ?_, r⟩
    rw [hg.block g (by rcases Nat.lt_or_ge g W.heap.size with q | q; (· exact q); rw [Array.getElem?_eq_none q] at hh; cases hh) (fun q => hne g (by rw [hv]; rfl) q.symm)]
    exact hh
theorem turn_grown {S : Nat → Prop} {W0 W W' : World} {row : Option Nat} (h : TurnS S W0 W) (hg : W.grownBy W' row) (hr : ∀ k, row = some k → S k ∨ W0.heap.size ≤ k) : TurnS S W0 W' := by
  refine ⟨hg.os.trans h.1, hg.tape.trans h.2.1, hg.output.trans h.2.2.1, Nat.le_trans h.2.2.2.1 hg.size, fun k hk hx => ?_⟩
  rw [hg.block k (Nat.lt_of_lt_of_le hk h.2.2.2.1) (fun q => by
    rcases hr k q.symm with r | r
    · exact hx r
    · omega)]
  exact h.2.2.2.2 k hk hx
theorem OwnX.cap {W : World} {lo : Nat} {e : Ty} {t : TypeId} {v : Value} {l : List e.T} {S : Nat → Prop} (h : OwnX W lo (.list e t) [v] l S) {a : Option Addr} {n c : Nat} (hv : v = .slice a n c) : l.length ≤ c := by
  rcases h with ⟨hl, e1⟩ | ⟨g', cap', xs, B, e1', hr, _⟩
  · rw [hl]; exact Nat.zero_le _
  · have := (List.cons.inj e1').1
    rw [hv] at this; cases this
    obtain ⟨cur, _, q, _⟩ := hr; exact q
abbrev cpC (n i : Int) (t : ByteArray) : List Value := [.int .i64 n, .int .i64 i, .string t]
abbrev opC (x0 : Int) (x1 : Bool) (x2 : ByteArray) (x3 : Int) (v : Value) (b0 b1 : Int) (b2 : ByteArray) (x8 x9 : Int) : List Value := [.int .i64 x0, .bool x1, .string x2, .int .i64 x3, v, .int .i64 b0, .int .i64 b1, .string b2, .int .i64 x8, .int .i64 x9]
/-- The cells of one copy and of one op, with its list, since W0. -/
def Loc (W0 : World) (lo gc oc go oo : Nat) (S0 : Nat → Prop) (W : World) (v1 : Value) (B1 : Nat → Prop) (cc ec : List Value) (sn : List (Sh.T .int)) : Prop :=
  Chunk W0 W 48 gc oc cc ∧ Chunk W0 W 53 go oo ec ∧ OwnX W lo (.list .int 3) [v1] sn B1 ∧
    (∀ k, B1 k → k ≠ gc ∧ k ≠ go ∧ k < W.heap.size ∧ (S0 k ∨ W0.heap.size ≤ k)) ∧ gc ≠ go ∧ S0 gc ∧ S0 go ∧ TurnS S0 W0 W ∧ lo ≤ W0.heap.size
section
variable {W0 W W' W5 : World} {lo gc oc go oo : Nat} {S0 : Nat → Prop} {v1 v5 : Value} {B1 : Nat → Prop} {cc ec : List Value} {sn : List (Sh.T .int)}
theorem Loc.next (h : Loc W0 lo gc oc go oo S0 W v1 B1 cc ec sn) (hb : Below W.heap.size W W') : Loc W0 lo gc oc go oo S0 W' v1 B1 cc ec sn := by
  obtain ⟨h1, h2, h3, h6, h7, h8, h9, h10, h11⟩ := h
  exact ⟨h1.keep (hb.block _ h1.lt), h2.keep (hb.block _ h2.lt), h3.next hb, fun k hk => ⟨(h6 k hk).1, (h6 k hk).2.1, Nat.lt_of_lt_of_le (h6 k hk).2.2.1 hb.size, (h6 k hk).2.2.2⟩, h7, h8, h9, h10.next hb, h11⟩
/-- A cell of the op is written. -/
theorem Loc.setO (h : Loc W0 lo gc oc go oo S0 W v1 B1 cc ec sn) {j : Nat} (hj : j < ec.length) (v : Value) : Loc W0 lo gc oc go oo S0 (W.setCell ⟨go, oo + j, none⟩ v) v1 B1 cc (ec.set j v) sn := by
  obtain ⟨h1, h2, h3, h6, h7, h8, h9, h10, h11⟩ := h
  exact ⟨h1.keep (Below.heap_setCell _ _ _ _ h7), h2.set hj v, h3.set (p := ⟨go, oo + j, none⟩) (fun q => (h6 _ q).2.1 rfl) _, fun k hk => ⟨(h6 k hk).1, (h6 k hk).2.1, by have := (h6 k hk).2.2.1; simpa using this, (h6 k hk).2.2.2⟩, h7, h8, h9, h10.set (p := ⟨go, oo + j, none⟩) h9 _, h11⟩
/-- A cell of the copy is written. -/
theorem Loc.setC (h : Loc W0 lo gc oc go oo S0 W v1 B1 cc ec sn) {j : Nat} (hj : j < cc.length) (v : Value) : Loc W0 lo gc oc go oo S0 (W.setCell ⟨gc, oc + j, none⟩ v) v1 B1 (cc.set j v) ec sn := by
  obtain ⟨h1, h2, h3, h6, h7, h8, h9, h10, h11⟩ := h
  exact ⟨h1.set hj v, h2.keep (Below.heap_setCell _ _ _ _ (Ne.symm h7)), h3.set (p := ⟨gc, oc + j, none⟩) (fun q => (h6 _ q).1 rfl) _, fun k hk => ⟨(h6 k hk).1, (h6 k hk).2.1, by have := (h6 k hk).2.2.1; simpa using this, (h6 k hk).2.2.2⟩, h7, h8, h9, h10.set (p := ⟨gc, oc + j, none⟩) h8 _, h11⟩
theorem Loc.lt1 (h : Loc W0 lo gc oc go oo S0 W v1 B1 cc ec sn) : gc < W.heap.size := h.1.lt
theorem Loc.lt2 (h : Loc W0 lo gc oc go oo S0 W v1 B1 cc ec sn) : go < W.heap.size := h.2.1.lt
theorem Loc.cC (h : Loc W0 lo gc oc go oo S0 W v1 B1 cc ec sn) (j : Nat) {v : Value} (hv : cc[j]? = some v) : W.cell? ⟨gc, oc + j, none⟩ = some v := h.1.cell hv
theorem Loc.cO (h : Loc W0 lo gc oc go oo S0 W v1 B1 cc ec sn) (j : Nat) {v : Value} (hv : ec[j]? = some v) : W.cell? ⟨go, oo + j, none⟩ = some v := h.2.1.cell hv
/-- The list's value is another one (the op's cell is written next). -/
theorem Loc.list {l' : List (Sh.T .int)} (h : Loc W0 lo gc oc go oo S0 W v1 B1 cc ec sn) (ho : W5.ownsRow lo 3 1 v5 l'.length (inC l')) (hg : W.grownBy W5 v1.ownBlock) (hwh : v5.ownBlock = v1.ownBlock ∨ v5.ownBlock = some W.heap.size) :
    Loc W0 lo gc oc go oo S0 W5 v5 (fun k => v5.ownBlock = some k) cc ec l' := by
  obtain ⟨h1, h2, h3, h6, h7, h8, h9, h10, h11⟩ := h
  have hB : ∀ k, v1.ownBlock = some k → B1 k := (h3.flat rfl).2
  have ha : W5.heap[gc]? = W.heap[gc]? := hg.block gc h1.lt (fun q => (h6 gc (hB gc q.symm)).1 rfl)
  have hp : W5.heap[go]? = W.heap[go]? := hg.block go h2.lt (fun q => (h6 go (hB go q.symm)).2.1 rfl)
  have hs0 := h10.size
  have h5b : ∀ k, v5.ownBlock = some k → k ≠ gc ∧ k ≠ go ∧ k < W5.heap.size ∧ (S0 k ∨ W0.heap.size ≤ k) := by
    intro k hk
    rcases hwh with q | q
    · have hb := hB k (q ▸ hk)
      exact ⟨(h6 k hb).1, (h6 k hb).2.1, (ho.lt k hk).2, (h6 k hb).2.2.2⟩
    · have hlt := (ho.lt k hk).2
      rw [q] at hk; cases hk
      exact ⟨fun e => by have := h1.lt; omega, fun e => by have := h2.lt; omega, hlt, Or.inr hs0⟩
  exact ⟨h1.keep ha, h2.keep hp, OwnX.of_flat (e := .int) rfl ho (fun k hk => hk), h5b, h7, h8, h9, turn_grown h10 hg (fun k hk => (h6 k (hB k hk)).2.2.2), h11⟩
/-- The list is given up. -/
theorem Loc.none (h : Loc W0 lo gc oc go oo S0 W v1 B1 cc ec sn) : Loc W0 lo gc oc go oo S0 W (.slice none 0 0) (fun _ => False) cc ec [] := by
  obtain ⟨h1, h2, h3, h6, h7, h8, h9, h10, h11⟩ := h
  exact ⟨h1, h2, OwnX.nil', fun k q => q.elim, h7, h8, h9, h10, h11⟩
end
/-- The blocks that a step may write. -/
def locS (gc go : Nat) (B1 : Nat → Prop) (k : Nat) : Prop := k = gc ∨ k = go ∨ B1 k
theorem Chunk.rebase {W W' : World} {t : TypeId} {g o : Nat} {ec : List Value} (h : Chunk W W' t g o ec) : Chunk W' W' t g o ec := by
  obtain ⟨cur, cur', h0, h1, h2, h3⟩ := h
  refine ⟨cur', cur', h1, h1, rfl, fun j => ?_⟩
  split
  · rename_i q; rw [h3, if_pos q]
  · rfl
theorem Chunk.join {W W1 W2 : World} {t : TypeId} {g o : Nat} {ec ec' : List Value} (h : Chunk W W1 t g o ec) (h' : Chunk W1 W2 t g o ec') (hl : ec.length = ec'.length) : Chunk W W2 t g o ec' := by
  obtain ⟨cur, cur1, h0, h1, h2, h3⟩ := h
  obtain ⟨cur1', cur2, g0, g1, g2, g3⟩ := h'
  rw [h1] at g0; cases g0
  refine ⟨cur, cur2, h0, g1, g2.trans h2, fun j => ?_⟩
  rw [g3]
  split
  · rfl
  · rename_i q; rw [h3, if_neg (by rw [hl]; exact q)]
section
variable {W0 W W' : World} {lo gc oc go oo : Nat} {S0 : Nat → Prop} {v1 v1' : Value} {B1 B1' : Nat → Prop} {cc ec cc' ec' : List Value} {sn sn' : List (Sh.T .int)}
theorem Loc.rebase (h : Loc W0 lo gc oc go oo S0 W v1 B1 cc ec sn) : Loc W lo gc oc go oo (locS gc go B1) W v1 B1 cc ec sn := by
  obtain ⟨h1, h2, h3, h6, h7, h8, h9, h10, h11⟩ := h
  exact ⟨h1.rebase, h2.rebase, h3, fun k hk => ⟨(h6 k hk).1, (h6 k hk).2.1, (h6 k hk).2.2.1, Or.inl (Or.inr (Or.inr hk))⟩, h7, Or.inl rfl, Or.inr (Or.inl rfl), TurnS.refl _ _, Nat.le_trans h11 h10.size⟩
theorem Loc.join (h : Loc W0 lo gc oc go oo S0 W v1 B1 cc ec sn) (h' : Loc W lo gc oc go oo (locS gc go B1) W' v1' B1' cc' ec' sn') (hc : cc.length = cc'.length) (he : ec.length = ec'.length) : Loc W0 lo gc oc go oo S0 W' v1' B1' cc' ec' sn' := by
  obtain ⟨h1, h2, h3, h6, h7, h8, h9, h10, h11⟩ := h
  obtain ⟨g1, g2, g3, g6, g7, g8, g9, g10, g11⟩ := h'
  have hs := h10.size
  refine ⟨h1.join g1 hc, h2.join g2 he, g3, fun k hk => ⟨(g6 k hk).1, (g6 k hk).2.1, (g6 k hk).2.2.1, ?_⟩, h7, h8, h9, ⟨g10.1.trans h10.1, g10.2.1.trans h10.2.1, g10.2.2.1.trans h10.2.2.1, Nat.le_trans hs g10.size, fun k hk hS => ?_⟩, h11⟩
  · rcases (g6 k hk).2.2.2 with q | q
    · rcases q with q | q | q
      · exact absurd q (g6 k hk).1
      · exact absurd q (g6 k hk).2.1
      · exact (h6 k q).2.2.2
    · exact Or.inr (Nat.le_trans hs q)
  · rw [g10.block (Nat.lt_of_lt_of_le hk hs) (fun q => ?_)]
    · exact h10.block hk hS
    · rcases q with q | q | q
      · exact hS (q ▸ h8)
      · exact hS (q ▸ h9)
      · rcases (h6 k q).2.2.2 with r | r
        · exact hS r
        · omega
theorem Loc.away (h' : Loc W lo gc oc go oo (locS gc go B1) W' v1' B1' cc' ec' sn') {g : Nat} {vs : List Value} (hx : Bx W g vs) (h1 : g ≠ gc) (h2 : g ≠ go) (h3 : ∀ k, B1 k → k ≠ g) : Bx W' g vs ∧ (∀ k, B1' k → k ≠ g) := by
  have hn : ¬ locS gc go B1 g := by
    rintro (q | q | q)
    · exact h1 q
    · exact h2 q
    · exact h3 g q rfl
  refine ⟨hx.turnS h'.2.2.2.2.2.2.2.1 hn, fun k hk e => ?_⟩
  rcases (h'.2.2.2.1 k hk).2.2.2 with q | q
  · exact hn (e ▸ q)
  · have := hx.2; omega
end
theorem reg_loc {X : World} {lo j k : Nat} {ck : Int} {va vp : Value} {cp : List (Sh.T shCopy)} {os : List (Sh.T shRegOp)} {S : Nat → Prop} {n i : Int} {t : ByteArray} {x0 : Int} {x1 : Bool} {x2 : ByteArray} {x3 : Int} {sn : List (Sh.T .int)} {b0 b1 : Int} {b2 : ByteArray} {x8 x9 : Int} (h : OwnX X lo tyRegister [.int .i64 ck, va, vp] (ck, cp, os, ()) S) (hj : j < cp.length) (hk : k < os.length) (hlo : lo ≤ X.heap.size) (hS : ∀ b, S b → b < X.heap.size) (hA : cp[j] = (n, i, t, ())) (hP : os[k] = (x0, x1, x2, x3, sn, (b0, b1, b2, ()), x8, x9, ())) :
    ∃ ga ka gp kp v1, ∃ B1 : Nat → Prop, va = .slice (some ⟨ga, 0, none⟩) cp.length ka ∧ vp = .slice (some ⟨gp, 0, none⟩) os.length kp ∧ cp.length ≤ ka ∧ os.length ≤ kp ∧ (∀ b, locS ga gp B1 b → S b) ∧ Loc X lo ga (j * 3) gp (k * 10) (locS ga gp B1) X v1 B1 (cpC n i t) (opC x0 x1 x2 x3 v1 b0 b1 b2 x8 x9) sn ∧
      ∀ (W' : World) (v5 : Value) (B5 : Nat → Prop) (n' i' : Int) (t' : ByteArray) (y0 : Int) (y1 : Bool) (y2 : ByteArray) (y3 : Int) (sn' : List (Sh.T .int)) (d0 d1 : Int) (d2 : ByteArray) (y8 y9 : Int), Loc X lo ga (j * 3) gp (k * 10) (locS ga gp B1) W' v5 B5 (cpC n' i' t') (opC y0 y1 y2 y3 v5 d0 d1 d2 y8 y9) sn' →
        ∀ ck' : Int, OwnX W' lo tyRegister [.int .i64 ck', va, vp] (ck', cp.set j (n', i', t', ()), os.set k (y0, y1, y2, y3, sn', (d0, d1, d2, ()), y8, y9, ()), ()) (fun b => S b ∨ (X.heap.size ≤ b ∧ b < W'.heap.size)) := by
  obtain ⟨va', S1, vp', S2, e0, hO1, hO2, hs1, hs2, hd⟩ := ownx_Register h
  cases e0
  obtain ⟨ga, ka, ea, Ba, ea1, hga, hlga, hSa, hBa, hela, hcea, hrooma, howna, hcha, hbacka⟩ := hO1.lens hj
  obtain ⟨gp, kp, ep, Bp, ep1, hgp, hlgp, hSp, hBp, help, hcep, hroomp, hownp, hchp, hbackp⟩ := hO2.lens hk
  have hcA := hO1.cap ea1
  have hcP := hO2.cap ep1
  have howna : OwnX X lo tyCopy ea (n, i, t, ()) Ba := Eq.mp (congrArg (fun z : tyCopy.T => OwnX X lo tyCopy ea z Ba) hA) howna
  have hownp : OwnX X lo tyRegOp ep (x0, x1, x2, x3, sn, (b0, b1, b2, ()), x8, x9, ()) Bp := Eq.mp (congrArg (fun z : tyRegOp.T => OwnX X lo tyRegOp ep z Bp) hP) hownp
  have ea0 := ownx_Copy howna
  obtain ⟨v1, B1, ep0, hv1, hb1⟩ := ownx_RegOp hownp
  subst ea0 ep0
  have hne : ga ≠ gp := fun e => hd ga hSa (e ▸ hSp)
  have hB : ∀ b, B1 b → S2 b ∧ b ≠ gp := fun b q => hBp b (hb1 b q)
  have hBga : ∀ b, B1 b → b ≠ ga := fun b hb e => hd ga hSa (e ▸ (hB b hb).1)
  refine ⟨ga, ka, gp, kp, v1, B1, ea1, ep1, hcA, hcP, ?_, ⟨hcha, hchp, hv1, fun b hb => ⟨hBga b hb, (hB b hb).2, hS b (hs2 b (hB b hb).1), Or.inl (Or.inr (Or.inr hb))⟩, hne, Or.inl rfl, Or.inr (Or.inl rfl), TurnS.refl _ _, hlo⟩, ?_⟩
  · rintro b (q | q | q)
    · exact q ▸ hs1 _ hSa
    · exact q ▸ hs2 _ hSp
    · exact hs2 _ (hB b q).1
  · intro W' v5 B5 n' i' t' y0 y1 y2 y3 sn' d0 d1 d2 y8 y9 hL ck'
    obtain ⟨g1, g2, g3, g6, g7, g8, g9, g10, g11⟩ := hL
    have ht := g10
    have hsz := ht.size
    have q1 := hbacka W' (cpC n' i' t') (n', i', t', ()) Ba (fun _ => False) (fun b hb hSb hbne hnb => ht.block hb (fun q => by
      rcases q with q | q | q
      · exact hbne q
      · exact hd b hSb (q ▸ hSp)
      · exact hd b hSb (hB b q).1)) g1 mkownx_Copy (fun b hb => Or.inl hb) (fun b q => q.elim)
    have q2 := hbackp W' (opC y0 y1 y2 y3 v5 d0 d1 d2 y8 y9) (y0, y1, y2, y3, sn', (d0, d1, d2, ()), y8, y9, ()) B5 (fun b => X.heap.size ≤ b ∧ b < W'.heap.size) (fun b hb hSb hbne hnb => ht.block hb (fun q => by
      rcases q with q | q | q
      · exact hd b (q ▸ hSa) hSb
      · exact hbne q
      · exact hnb (hb1 b q))) g2 (mkownx_RegOp g3 (fun b hb => hb)) (fun b hb => by
        rcases (g6 b hb).2.2.2 with q | q
        · rcases q with q | q | q
          · exact absurd q (g6 b hb).1
          · exact absurd q (g6 b hb).2.1
          · exact Or.inl (hb1 b q)
        · exact Or.inr ⟨q, (g6 b hb).2.2.1⟩) (fun b hb q => by have := hS b (hs2 b q); omega)
    refine mkownx_Register (S1 := S1) (S2 := fun b => S2 b ∨ (X.heap.size ≤ b ∧ b < W'.heap.size)) (q1.mono (fun b hb => hb.elim id False.elim)) q2 (fun b hb => Or.inl (hs1 b hb)) (fun b hb => hb.elim (fun q => Or.inl (hs2 b q)) Or.inr) (fun b e f => ?_)
    rcases f with f | f
    · exact hd b e f
    · have := hS b (hs1 b e); omega
end Go.Proofs.Ytaofolbnommpgaa
