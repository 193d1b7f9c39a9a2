/- Leases: draws of leases, of plays, of steps on leases. Written by tools/mkDlW.py. -/
import Derived.Test.YtidalpgkljafdaaDlV
import Derived.Test.YtidalpgkljafdaaLpL
namespace Go.Proofs.Ytidalpgkljafdaa
open Go.RowKit
set_option linter.unusedVariables false
set_option linter.unusedSimpArgs false

/-- While leases are drawn: the answer's cell, the leases in box b4, their lists. -/
def LdS (w W : World) (g : Nat) (a : Option Addr) (n cap : Nat) (X : Nat → Int) (t b4 : Nat) (sk nw : Int) (v1 : Value) (cl : List (Sh.T .int)) (ho un : Int) (v2 : Value) (kn : List (Sh.T .int)) : Prop :=
  Drew g a n cap X t w W ∧ Bx W w.heap.size [.int .i64 0, .int .i64 0, .slice none 0 0, .int .i64 0, .int .i64 0, .slice none 0 0] ∧ Bx W b4 [.int .i64 sk, .int .i64 nw, v1, .int .i64 ho, .int .i64 un, v2] ∧ (∃ S1 S2 : Nat → Prop, OwnX W (w.heap.size + 1) (.list .int 3) [v1] cl S1 ∧ OwnX W (w.heap.size + 1) (.list .int 3) [v2] kn S2 ∧ (∀ k, S1 k ∨ S2 k → w.heap.size < k ∧ k < W.heap.size ∧ k ≠ b4) ∧ ∀ k, S1 k → ¬ S2 k) ∧ w.heap.size < b4 ∧ g < w.heap.size
section
variable {w W W' : World} {g : Nat} {a : Option Addr} {n cap : Nat} {X : Nat → Int} {t t' b4 : Nat} {sk nw : Int} {v1 : Value} {cl : List (Sh.T .int)} {ho un : Int} {v2 : Value} {kn : List (Sh.T .int)}
theorem LdS.draw (h : LdS w W g a n cap X t b4 sk nw v1 cl ho un v2 kn) (hd : Drew g a n cap X t' W W') : LdS w W' g a n cap X t' b4 sk nw v1 cl ho un v2 kn := by
  obtain ⟨h1, h2, h3, ⟨S1, S2, h4, h5, h6, h7⟩, h8, h9⟩ := h
  have hz := hd.2.2.2.2.1
  have hk : ∀ k, k < W.heap.size → w.heap.size ≤ k → W'.heap[k]? = W.heap[k]? := fun k hk hw => hd.2.2.2.2.2 k hk (by omega)
  exact ⟨h1.trans hd, h2.keepB (fun q => hk _ q (Nat.le_refl _)) hz, h3.keepB (fun q => hk _ q (by omega)) hz, ⟨S1, S2, h4.keep (fun k q s => hk k q (by have := (h6 k (Or.inl s)).1; omega)), h5.keep (fun k q s => hk k q (by have := (h6 k (Or.inr s)).1; omega)), fun k q => ⟨(h6 k q).1, Nat.lt_of_lt_of_le (h6 k q).2.1 hz, (h6 k q).2.2⟩, h7⟩, h8, h9⟩
theorem LdS.alloc (h : LdS w W g a n cap X t b4 sk nw v1 cl ho un v2 kn) (o : Obj) : LdS w (W.alloc o) g a n cap X t b4 sk nw v1 cl ho un v2 kn := by
  obtain ⟨h1, h2, h3, ⟨S1, S2, h4, h5, h6, h7⟩, h8, h9⟩ := h
  have hb : Below W.heap.size W (W.alloc o) := Go.Joins.below_alloc1 _ _
  exact ⟨⟨h1.1.next hb, h1.2.alloc _⟩, h2.next hb, h3.next hb, ⟨S1, S2, h4.next hb, h5.next hb, fun k q => ⟨(h6 k q).1, Nat.lt_of_lt_of_le (h6 k q).2.1 hb.size, (h6 k q).2.2⟩, h7⟩, h8, h9⟩
theorem LdS.setN (h : LdS w W g a n cap X t b4 sk nw v1 cl ho un v2 kn) (x : Int) : LdS w (W.setCell ⟨b4, 1, none⟩ (.int .i64 x)) g a n cap X t b4 sk x v1 cl ho un v2 kn := by
  obtain ⟨h1, h2, h3, ⟨S1, S2, h4, h5, h6, h7⟩, h8, h9⟩ := h
  exact ⟨h1.out h9 (by omega) _, h2.other (by omega), h3.set (k := 1) (by simp) _, ⟨S1, S2, h4.set (p := ⟨b4, 1, none⟩) (fun q => (h6 _ (Or.inl q)).2.2 rfl) _, h5.set (p := ⟨b4, 1, none⟩) (fun q => (h6 _ (Or.inr q)).2.2 rfl) _, fun k q => by have := h6 k q; simp only [World.size_setCell]; exact this, h7⟩, h8, h9⟩
theorem LdS.setH (h : LdS w W g a n cap X t b4 sk nw v1 cl ho un v2 kn) (x : Int) : LdS w (W.setCell ⟨b4, 3, none⟩ (.int .i64 x)) g a n cap X t b4 sk nw v1 cl x un v2 kn := by
  obtain ⟨h1, h2, h3, ⟨S1, S2, h4, h5, h6, h7⟩, h8, h9⟩ := h
  exact ⟨h1.out h9 (by omega) _, h2.other (by omega), h3.set (k := 3) (by simp) _, ⟨S1, S2, h4.set (p := ⟨b4, 3, none⟩) (fun q => (h6 _ (Or.inl q)).2.2 rfl) _, h5.set (p := ⟨b4, 3, none⟩) (fun q => (h6 _ (Or.inr q)).2.2 rfl) _, fun k q => by have := h6 k q; simp only [World.size_setCell]; exact this, h7⟩, h8, h9⟩
theorem LdS.up (h : LdS w W g a n cap X t b4 sk nw v1 cl ho un v2 kn) (ht : t ≤ t') : LdS w W g a n cap X t' b4 sk nw v1 cl ho un v2 kn := ⟨h.1.up ht, h.2⟩
theorem LdS.row (h : LdS w W g a n cap X t b4 sk nw v1 cl ho un v2 kn) : ∃ S, OwnX W (w.heap.size + 1) (.list .int 3) [v2] kn S := by
  obtain ⟨_, _, _, ⟨_, S2, _, q, _⟩, _⟩ := h; exact ⟨S2, q⟩
/-- Known has one more. -/
theorem LdS.app {W9 : World} {v9 : Value} {x : Int} {S9 : Nat → Prop} (h : LdS w W g a n cap X t b4 sk nw v1 cl ho un v2 kn) (hO : OwnX W9 (w.heap.size + 1) (.list .int 3) [v9] (kn ++ [x]) S9) (hg : W.grownBy W9 v2.ownBlock) (hwh : v9.ownBlock = v2.ownBlock ∨ v9.ownBlock = some W.heap.size) : Bx W9 b4 [.int .i64 sk, .int .i64 nw, v1, .int .i64 ho, .int .i64 un, v2] ∧ LdS w (W9.setCell ⟨b4, 5, none⟩ v9) g a n cap X t b4 sk nw v1 cl ho un v9 (kn ++ [x]) := by
  obtain ⟨h1, h2, h3, ⟨S1, S2, h4, h5, h6, h7⟩, h8, h9⟩ := h
  obtain ⟨row, hrS⟩ := h5.flat rfl
  obtain ⟨row9, _⟩ := OwnX.flat (e := .int) rfl hO
  have hz := hg.size
  have hl : ∀ k, v2.ownBlock = some k → w.heap.size < k ∧ k < W.heap.size ∧ k ≠ b4 := fun k hk => h6 k (Or.inr (hrS k hk))
  have hbz := h3.2
  have e9 : ∀ k, v9.ownBlock = some k → k = W.heap.size ∨ v2.ownBlock = some k := fun k hk => by
    rcases hwh with q | q
    · exact Or.inr (q ▸ hk)
    · rw [q] at hk; cases hk; exact Or.inl rfl
  have hn9 : v9.ownBlock ≠ some b4 := fun q => by rcases e9 _ q with r | r; (· omega); exact (hl _ r).2.2 rfl
  have hbx : Bx W9 b4 [.int .i64 sk, .int .i64 nw, v1, .int .i64 ho, .int .i64 un, v2] := h3.grow hg (fun q => (hl _ q.symm).2.2 rfl)
  have ho9 : OwnX W9 (w.heap.size + 1) (.list .int 3) [v9] (kn ++ [x]) (fun k => v9.ownBlock = some k) := OwnX.of_flat (e := .int) rfl row9 (fun k hk => hk)
  refine ⟨hbx, (h1.grownX hg h9 (fun j hj => by have := (hl j hj).1; omega)).out h9 (by omega) _, (h2.grow hg (fun q => by have := (hl _ q.symm).1; omega)).other (by omega), hbx.set (k := 5) (by simp) _, ⟨S1, fun k => v9.ownBlock = some k, (h4.grow hg (fun k hk q => h7 k q (hrS k hk))).set (p := ⟨b4, 5, none⟩) (fun q => (h6 _ (Or.inl q)).2.2 rfl) _, ho9.set (p := ⟨b4, 5, none⟩) hn9 _, fun k q => ?_, fun k q r => ?_⟩, h8, h9⟩
  · simp only [World.size_setCell]
    rcases q with q | q
    · have := h6 k (Or.inl q); exact ⟨this.1, by omega, this.2.2⟩
    · have h := row9.lt k q
      exact ⟨by omega, h.2, fun e => hn9 (e ▸ q)⟩
  · rcases e9 k r with e | e
    · have := (h6 k (Or.inl q)).2.1; omega
    · exact h7 k q (hrS k e)
end
/-- Leases that were drawn. -/
def LdP (g : Nat) (a : Option Addr) (n cap : Nat) (X : Nat → Int) (t : Nat) (w : World) (r : Ending) (w' : World) : Prop := ∃ (sk nw : Int) (cl : List (Sh.T .int)) (ho un : Int) (kn : List (Sh.T .int)) (p3 : Option Addr) (q3 : Nat) (p4 : Option Addr) (q4 : Nat), r = .returned (.agg #[.int .i64 sk, .int .i64 nw, .slice p3 cl.length q3, .int .i64 ho, .int .i64 un, .slice p4 kn.length q4]) ∧ (cl.length ≤ 12 ∧ kn.length ≤ 13) ∧ Own w' shLeases [.int .i64 sk, .int .i64 nw, .slice p3 cl.length q3, .int .i64 ho, .int .i64 un, .slice p4 kn.length q4] (sk, nw, cl, ho, un, kn, ()) (fun k => w.heap.size < k) ∧ Drew g a n cap X t w w'
theorem LdS.done {w W : World} {g : Nat} {a : Option Addr} {n cap : Nat} {X : Nat → Int} {t b4 : Nat} {sk nw : Int} {p3 : Option Addr} {q3 : Nat} {cl : List (Sh.T .int)} {ho un : Int} {p4 : Option Addr} {q4 : Nat} {kn : List (Sh.T .int)} (h : LdS w W g a n cap X t b4 sk nw (.slice p3 cl.length q3) cl ho un (.slice p4 kn.length q4) kn) (hl : cl.length ≤ 12 ∧ kn.length ≤ 13) (u0 u1 u2 u3 u4 u5 : Value) : LdP g a n cap X t w (.returned (.agg #[.int .i64 sk, .int .i64 nw, .slice p3 cl.length q3, .int .i64 ho, .int .i64 un, .slice p4 kn.length q4])) ((((((W.setCell ⟨w.heap.size, 0, none⟩ u0).setCell ⟨w.heap.size, 1, none⟩ u1).setCell ⟨w.heap.size, 2, none⟩ u2).setCell ⟨w.heap.size, 3, none⟩ u3).setCell ⟨w.heap.size, 4, none⟩ u4).setCell ⟨w.heap.size, 5, none⟩ u5) := by
  obtain ⟨h1, h2, h3, ⟨S1, S2, h4, h5, h6, h7⟩, h8, h9⟩ := h
  have ht := set6 W w.heap.size u0 u1 u2 u3 u4 u5
  have n1 : ∀ k, S1 k → ¬ k = w.heap.size := fun k q e => by have := (h6 k (Or.inl q)).1; omega
  have n2 : ∀ k, S2 k → ¬ k = w.heap.size := fun k q e => by have := (h6 k (Or.inr q)).1; omega
  exact ⟨sk, nw, cl, ho, un, kn, p3, q3, p4, q4, rfl, hl, mkown_Leases (OwnX.own (h4.turn ht n1)) (OwnX.own (h5.turn ht n2)) (fun k q => (h6 k (Or.inl q)).1) (fun k q => (h6 k (Or.inr q)).1) h7, (((((h1.out h9 (Nat.le_refl _) _).out h9 (Nat.le_refl _) _).out h9 (Nat.le_refl _) _).out h9 (Nat.le_refl _) _).out h9 (Nat.le_refl _) _).out h9 (Nat.le_refl _) _⟩
theorem lpA_bd (m sk : Int) (l : List (Sh.T shLeaseStep)) : (0 ≤ (lpA m sk l).1.2.1 ∧ (lpA m sk l).1.2.1 ≤ 1000000) ∧ (lpA m sk l).1.2.2.1.length ≤ 12 ∧ (lpA m sk l).1.2.2.2.2.2.1.length ≤ 12 := by
  by_cases h : lpOk m sk l
  · rw [(lp_yes h).1]
    have h1 := lp_good (s := lp0 m sk) (l := l) (good_lp0 h.1) (Nat.le_refl l.length)
    rw [List.take_length] at h1
    have h2 := h1.2.2.2.1
    have h3 := h1.2.2.2.2.1
    exact ⟨h1.2.1, by omega, by omega⟩
  · rw [(lp_no h).1]; exact ⟨by decide, by decide, by decide⟩
/-- What a play leaves, as the draw of leases takes it. -/
theorem LpX.box {w W W4 : World} {g : Nat} {a : Option Addr} {n cap : Nat} {X : Nat → Int} {t : Nat} {m s0 : Int} {l : List (Sh.T shLeaseStep)} {r : Ending} (h : LpX m s0 l W r W4) (hd : Drew g a n cap X t w W) (hg : g < w.heap.size) (hz : w.heap.size < W.heap.size) (hb : Bx W w.heap.size [.int .i64 0, .int .i64 0, .slice none 0 0, .int .i64 0, .int .i64 0, .slice none 0 0]) :
    ∃ (sk nw : Int) (cl : List (Sh.T .int)) (ho un : Int) (kn : List (Sh.T .int)) (p3 : Option Addr) (q3 : Nat) (p4 : Option Addr) (q4 : Nat) (v : Value) (z : Bool), r = .returned (.tuple #[.agg #[.int .i64 sk, .int .i64 nw, .slice p3 cl.length q3, .int .i64 ho, .int .i64 un, .slice p4 kn.length q4], v, .bool z]) ∧ (0 ≤ nw ∧ nw ≤ 1000000) ∧ cl.length ≤ 12 ∧ kn.length ≤ 12 ∧ LdS w (W4.alloc (.cells #[.int .i64 sk, .int .i64 nw, .slice p3 cl.length q3, .int .i64 ho, .int .i64 un, .slice p4 kn.length q4] 28)) g a n cap X t W4.heap.size sk nw (.slice p3 cl.length q3) cl ho un (.slice p4 kn.length q4) kn := by
  obtain ⟨⟨_, _, _, _, _, _, _, _, _, hB⟩, cs, v, S, rfl, hO⟩ := h
  have hbd := lpA_bd m s0 l
  obtain ⟨sk, nw, cl, ho, un, kn, hy⟩ : ∃ (sk nw : Int) (cl : List (Sh.T .int)) (ho un : Int) (kn : List (Sh.T .int)), (lpA m s0 l).1 = (sk, nw, cl, ho, un, kn, ()) := ⟨_, _, _, _, _, _, rfl⟩
  rw [hy] at hO hbd
  obtain ⟨v1, S1, v2, S2, hcs, o1, o2, _, _, hdj⟩ := ownx_Leases hO
  subst hcs
  obtain ⟨p3, q3, e1⟩ := o1.vform
  obtain ⟨p4, q4, e2⟩ := o2.vform
  have e1 : v1 = .slice p3 (List.length (α := Sh.T .int) cl) q3 := e1
  have e2 : v2 = .slice p4 (List.length (α := Sh.T .int) kn) q4 := e2
  subst e1 e2
  obtain ⟨row1, _⟩ := OwnX.flat (e := .int) rfl o1
  obtain ⟨row2, _⟩ := OwnX.flat (e := .int) rfl o2
  have hs1 := (OwnX.flat (e := .int) rfl o1).2
  have hs2 := (OwnX.flat (e := .int) rfl o2).2
  have z1 := hB.size
  have hb4 : Below W4.heap.size W4 (W4.alloc (.cells #[.int .i64 sk, .int .i64 nw, .slice p3 cl.length q3, .int .i64 ho, .int .i64 un, .slice p4 kn.length q4] 28)) := Go.Joins.below_alloc1 _ _
  have zz : (W4.alloc (.cells #[.int .i64 sk, .int .i64 nw, .slice p3 cl.length q3, .int .i64 ho, .int .i64 un, .slice p4 kn.length q4] 28)).heap.size = W4.heap.size + 1 := by simp
  refine ⟨sk, nw, cl, ho, un, kn, p3, q3, p4, q4, v, _, rfl, hbd.1, hbd.2.1, hbd.2.2, ⟨⟨(hd.1.next hB).next hb4, (hd.2.next hB).alloc _⟩, (hb.next hB).next hb4, Bx.new W4 [_, _, _, _, _, _] _, ⟨fun k => (Value.slice p3 cl.length q3).ownBlock = some k, fun k => (Value.slice p4 kn.length q4).ownBlock = some k, ?_, ?_, fun k q => ?_, fun k q r => hdj k (hs1 k q) (hs2 k r)⟩, by omega, hg⟩⟩
  · exact ((OwnX.of_flat (e := .int) rfl row1 (fun k hk => hk)).next hb4).lower (by omega)
  · exact ((OwnX.of_flat (e := .int) rfl row2 (fun k hk => hk)).next hb4).lower (by omega)
  · rcases q with q | q
    · have := row1.lt k q; exact ⟨by omega, by omega, by omega⟩
    · have := row2.lt k q; exact ⟨by omega, by omega, by omega⟩

theorem LdP.up {g : Nat} {a : Option Addr} {n cap : Nat} {X : Nat → Int} {t t' : Nat} {w w' : World} {r : Ending} (h : LdP g a n cap X t w r w') (ht : t ≤ t') : LdP g a n cap X t' w r w' := by
  obtain ⟨a1, a2, a3, a4, a5, a6, a7, a8, a9, a10, b1, b2, b3, b4⟩ := h
  exact ⟨a1, a2, a3, a4, a5, a6, a7, a8, a9, a10, b1, b2, b3, b4.up ht⟩
theorem dv_step {e : Ty} {y : TypeId} {w W W' : World} {g : Nat} {a : Option Addr} {n cap : Nat} {X : Nat → Int} {t t' : Nat} {zc : List Value} {v : Value} {L : List e.T} (h : DvH e y W w g a n cap X t v L ∧ Bx W w.heap.size zc) (hd : Drew g a n cap X t' W W') (hg : g < w.heap.size) : DvH e y W' w g a n cap X t' v L ∧ Bx W' w.heap.size zc :=
  ⟨h.1.draw hd hg, h.2.keepB (fun q => hd.2.2.2.2.2 _ q (by omega)) hd.2.2.2.2.1⟩

set_option maxRecDepth 100000 in
set_option maxHeartbeats 8000000 in
theorem leases_any (g : Nat) (a : Option Addr) (n cap : Nat) (X : Nat → Int) (t : Nat) (w : World) (ht : t ≤ 10000) (hc : Cur w g a n cap X t) :
    Calls Try.prog 49 #[.pointer (some ⟨g, 0, none⟩)] w (LdP g a n cap X (t + 2020) w) := by
  have hgw : g < w.heap.size := hc.2.2.2.2.2.1
  obtain ⟨i0, hi0, hz0, hz1, hz2⟩ := info_parts inf_int
  obtain ⟨w0, hw0⟩ : ∃ x, x = w.alloc (.cells #[.int .i64 0, .int .i64 0, .slice none 0 0, .int .i64 0, .int .i64 0, .slice none 0 0] 28) := ⟨_, rfl⟩
  have HC : Hid (Drew g a n cap X t w w0 ∧ Bx w0 w.heap.size [.int .i64 0, .int .i64 0, .slice none 0 0, .int .i64 0, .int .i64 0, .slice none 0 0]) := ⟨⟨hc.next (hw0 ▸ Go.Joins.below_alloc1 _ _), hw0 ▸ (Trn.refl _ _ _).alloc _⟩, hw0 ▸ Bx.new w [_, _, _, _, _, _] _⟩
  clear hc
  go_enter Try.func49, Try.ntmps49
  go_wp2_with fail
  rw [← hw0]
  clear hw0
  refine (leaseSteps_any _ _ _ _ _ _ _ (by omega) HC.out.1.1).mono ?_
  rintro _ w1 ⟨L, v, hL, rfl, hd⟩
  obtain ⟨a2, c2, e1⟩ := hd.1.vform
  have e1 : v = .slice a2 (List.length (α := Sh.T shLeaseStep) L) c2 := e1
  subst e1
  have haf := OwnX.aform (e := tyLStep) hd.1
  have H1 : Hid (DvH tyLStep 34 w1 w g a n cap X (t + 2000) (.slice a2 L.length c2) L ∧ Bx w1 w.heap.size [.int .i64 0, .int .i64 0, .slice none 0 0, .int .i64 0, .int .i64 0, .slice none 0 0]) := Hid.intro (by
    have z0 := HC.out.2.2
    obtain ⟨row, _⟩ := OwnX.flat (e := tyLStep) rfl hd.1
    exact ⟨⟨(OwnX.of_flat (e := tyLStep) rfl row (fun k hk => by have := row.lt k hk; simp only [Btw]; omega)).lower (by omega), HC.out.1.trans hd.2⟩, HC.out.2.keepB (fun q => hd.2.2.2.2.2.2 _ q (by omega)) hd.2.2.2.2.2.1⟩)
  have hcap := (Lies.caps (OwnX.lies hd.1)).1
  clear hd HC
  by_cases hlt : (100 : Int) < (L.length : Int)
  case neg =>
    have HLL : Hid (L.length ≤ 1073741824) := Hid.intro (by omega)
    clear hcap haf
    go_wp2_with fail
    refine (pick_any _ _ _ _ _ _ _ _ (by omega) (by omega) H1.out.1.2.1).mono ?_
    rintro _ w2 ⟨x1, hx1, rfl, hd⟩
    have H2 : Hid (DvH tyLStep 34 w2 w g a n cap X (t + 2002) (.slice a2 L.length c2) L ∧ Bx w2 w.heap.size [.int .i64 0, .int .i64 0, .slice none 0 0, .int .i64 0, .int .i64 0, .slice none 0 0]) := dv_step H1.out hd hgw
    clear hd H1
    go_wp2_with fail
    refine (pick_any _ _ _ _ _ _ _ _ (by omega) (by omega) H2.out.1.2.1).mono ?_
    rintro _ w3 ⟨x2, hx2, rfl, hd⟩
    have H3 : Hid (DvH tyLStep 34 w3 w g a n cap X (t + 2004) (.slice a2 L.length c2) L ∧ Bx w3 w.heap.size [.int .i64 0, .int .i64 0, .slice none 0 0, .int .i64 0, .int .i64 0, .slice none 0 0]) := dv_step H2.out hd hgw
    clear hd H2
    go_wp2_with fail
    refine (specPlayLeases_x (1 + x1) x2 a2 c2 L _ HLL.out (OwnX.lies H3.out.1.1)).mono ?_
    intro r w4 hX
    obtain ⟨sk, nw, cl, ho, un, kn, p3, q3, p4, q4, v9, z9, rfl, hnw, hcl, hkn, hLd⟩ := LpX.box hX H3.out.1.2 hgw H3.out.2.2 H3.out.2
    obtain ⟨b4, hb4⟩ : ∃ y, y = w4.heap.size := ⟨_, rfl⟩
    obtain ⟨Y, hY⟩ : ∃ x, x = w4.alloc (.cells #[.int .i64 sk, .int .i64 nw, .slice p3 cl.length q3, .int .i64 ho, .int .i64 un, .slice p4 kn.length q4] 28) := ⟨_, rfl⟩
    rw [← hb4, ← hY] at hLd
    have HQ0 := Hid.intro hLd
    clear hX hLd H3
    go_wp2_with fail
    rw [← hY, ← hb4]
    clear hY hb4
    refine (pick_any _ _ _ _ _ _ _ _ (by omega) (by omega) HQ0.out.1.1).mono ?_
    rintro _ w5 ⟨z, hzb, rfl, hd⟩
    have HQ : Hid (LdS w w5 g a n cap X (t + 2006) b4 sk (nw) (.slice p3 cl.length q3) cl (ho) un (.slice p4 kn.length q4) (kn)) := Hid.intro (HQ0.out.draw hd)
    clear hd HQ0
    by_cases e0 : z = 0
    case pos =>
      subst e0
      go_upto_region 7 with fail
      have HQ := (show Hid (LdS w w5.drew g a n cap X (t + 2006) b4 sk (nw) (.slice p3 cl.length q3) cl (ho) un (.slice p4 kn.length q4) (kn)) from ⟨⟨HQ.out.1.1.next (below_drew _), HQ.out.1.2.next (below_drew _)⟩, HQ.out.2⟩)
      refine wp_region_noPanic ?_
      refine wp_region_held_drew (S := fun _ => True) (by kernel_rfl) trivial (fun hHeld => ?_)
      obtain ⟨X0, hX0⟩ : ∃ x, x = w5.drew := ⟨_, rfl⟩
      rw [← hX0] at HQ ⊢
      clear hX0
      refine take_v (v := ?_) 0 ⟨some 29, Op.fieldAddr 28 (Operand.tmp 4) 1, _, _, _, none⟩ rfl (fun _ _ _ h => h) ?_ hHeld ?_
      rotate_left
      · (intro W _; go_simp <;> (try with_reducible rfl))
      refine take_v (v := ?_) 2 ⟨some 31, Op.move (Operand.tmp 0), _, _, _, none⟩ rfl (fun _ _ _ h => h) ?_ hHeld ?_
      rotate_left
      · (intro W _; go_simp <;> (try with_reducible rfl))
      refine ready_two 1 3 ⟨some 30, Op.load 3 (Operand.tmp 29), _, _, _, none⟩ ⟨some 32, Op.buildSlice 26 3 #[(0, Operand.const (Value.int IntKind.i64 (-1))), (1, Operand.const (Value.int IntKind.i64 50)), (2, Operand.const (Value.int IntKind.i64 1000000))], _, _, _, none⟩ (by kernel_rfl) rfl rfl (by kernel_rfl) (by kernel_rfl) (fun KC hK => ?_) (fun KC hK => ?_)
      ·
        have k1 := HQ.out.2.2.1.cell 1 rfl
        have kz := HQ.out.2.2.1.2
        go_wp2_with fail
        clear k1 kz
        refine hK.out _ _ trivial (fun hHeld => ?_)
        clear hK KC
        refine ready_call 3 ⟨some 32, Op.buildSlice 26 3 #[(0, Operand.const (Value.int IntKind.i64 (-1))), (1, Operand.const (Value.int IntKind.i64 50)), (2, Operand.const (Value.int IntKind.i64 1000000))], _, _, _, none⟩ (by kernel_rfl) rfl (by kernel_rfl) (fun KC hK => ?_)
        go_wp2_with fail
        have hgz : g < X0.heap.size := by have h1 := HQ.out.2.1.2; omega
        have HQ := Hid.intro (HQ.out.alloc (.cells #[.int .i64 (-1), .int .i64 50, .int .i64 1000000] 3))
        refine hK.out _ _ trivial (fun hHeld => ?_)
        clear hK KC
        refine ready_call 4 ⟨some 33, Op.call { callee := Callee.value (Operand.func 61), args := #[Operand.tmp 31, Operand.tmp 32], argTypes := #[64, 26] }, _, _, _, none⟩ (by kernel_rfl) rfl (by kernel_rfl) (fun KC hK => ?_)
        go_wp2_with fail
        refine (amongL_any g a n cap X _ X0.heap.size _ 3 (fun i => [(-1 : Int), 50, 1000000].getD i 0) 2000000 _ (by omega) HQ.out.1.1 (by omega) (by simp) (by omega) (by omega) (int_new X0 [-1, 50, 1000000] 3) (int_small (L := [-1, 50, 1000000]) (B := 2000000) rfl)).mono ?_
        rintro _ X2 ⟨am, ham, rfl, hd⟩
        have HQ := Hid.intro (HQ.out.draw hd)
        clear hd
        refine hK.out _ _ trivial (fun hHeld => ?_)
        clear hK KC
        refine take_v (v := ?_) 5 ⟨some 34, Op.binOp BinOp.add 3 (Operand.tmp 30) (Operand.tmp 33) 3, _, _, _, none⟩ rfl (fun _ _ _ h => h) ?_ hHeld ?_
        rotate_left
        · (intro W _; go_simp <;> (try with_reducible rfl))
        refine take_v (v := ?_) 6 ⟨some 35, Op.fieldAddr 28 (Operand.tmp 4) 1, _, _, _, none⟩ rfl (fun _ _ _ h => h) ?_ hHeld ?_
        rotate_left
        · (intro W _; go_simp <;> (try with_reducible rfl))
        refine ready_call 7 ⟨none, Op.store 3 (Operand.tmp 35) (Operand.tmp 34), _, _, _, none⟩ (by kernel_rfl) rfl (by kernel_rfl) (fun KC hK => ?_)
        have k1 := HQ.out.2.2.1.cell 1 rfl
        have kf := HQ.out.2.2.1.frz 1 (by simp)
        have kz := HQ.out.2.2.1.2
        go_wp2_with fail
        (obtain ⟨Q, hQ⟩ : ∃ x, x = X2.setCell ⟨b4, 1, none⟩ (.int .i64 (nw + am)) := ⟨_, rfl⟩)
        have HQ := (show Hid (LdS w Q g a n cap X (t + 2008) b4 sk (nw + am) (.slice p3 cl.length q3) cl (ho) un (.slice p4 kn.length q4) (kn)) from Hid.intro (hQ ▸ LdS.up (HQ.out.setN (nw + am)) (by omega)))
        rw [← hQ]
        clear k1 kf kz hQ
        refine hK.out _ _ trivial (fun hHeld => ?_)
        clear hK KC
        refine wpAnyH_done (by kernel_rfl) ?_ _
        refine NoPanic.normal ?_
        clear hHeld
        have HLN : Hid (cl.length ≤ 12 ∧ kn.length ≤ 13) := ⟨hcl, by omega⟩
        have s0 := HQ.out.2.2.1.cell 0 rfl
        have s1 := HQ.out.2.2.1.cell 1 rfl
        have s2 := HQ.out.2.2.1.cell 2 rfl
        have s3 := HQ.out.2.2.1.cell 3 rfl
        have s4 := HQ.out.2.2.1.cell 4 rfl
        have s5 := HQ.out.2.2.1.cell 5 rfl
        have sz := HQ.out.2.2.1.2
        have r0 := HQ.out.2.1.cell 0 rfl
        have r1 := HQ.out.2.1.cell 1 rfl
        have r2 := HQ.out.2.1.cell 2 rfl
        have r3 := HQ.out.2.1.cell 3 rfl
        have r4 := HQ.out.2.1.cell 4 rfl
        have r5 := HQ.out.2.1.cell 5 rfl
        have rz := HQ.out.2.1.2
        have rf0 := HQ.out.2.1.frz 0 (by simp)
        have rf1 := HQ.out.2.1.frz 1 (by simp)
        have rf2 := HQ.out.2.1.frz 2 (by simp)
        have rf3 := HQ.out.2.1.frz 3 (by simp)
        have rf4 := HQ.out.2.1.frz 4 (by simp)
        have rf5 := HQ.out.2.1.frz 5 (by simp)
        have hne : b4 ≠ w.heap.size := Nat.ne_of_gt HQ.out.2.2.2.2.1
        have HF := Hid.intro (HQ.out.done HLN.out (.int .i64 sk) (.int .i64 (nw + am)) (.slice p3 cl.length q3) (.int .i64 (ho)) (.int .i64 un) (.slice p4 kn.length q4))
        go_wp2_with fail
        refine bodyPost_ret (v := .agg #[.int .i64 sk, .int .i64 (nw + am), .slice p3 cl.length q3, .int .i64 (ho), .int .i64 un, .slice p4 kn.length q4]) (by simp [results, Try.results49, go_sem, *]) rfl ?_
        exact LdP.up HF.out (by omega)
      ·
        go_wp2_with fail
        have hgz : g < X0.heap.size := by have h1 := HQ.out.2.1.2; omega
        have HQ := Hid.intro (HQ.out.alloc (.cells #[.int .i64 (-1), .int .i64 50, .int .i64 1000000] 3))
        refine hK.out _ _ trivial (fun hHeld => ?_)
        clear hK KC
        refine ready_two 1 4 ⟨some 30, Op.load 3 (Operand.tmp 29), _, _, _, none⟩ ⟨some 33, Op.call { callee := Callee.value (Operand.func 61), args := #[Operand.tmp 31, Operand.tmp 32], argTypes := #[64, 26] }, _, _, _, none⟩ (by kernel_rfl) rfl rfl (by kernel_rfl) (by kernel_rfl) (fun KC hK => ?_) (fun KC hK => ?_)
        ·
          have k1 := HQ.out.2.2.1.cell 1 rfl
          have kz := HQ.out.2.2.1.2
          go_wp2_with fail
          clear k1 kz
          refine hK.out _ _ trivial (fun hHeld => ?_)
          clear hK KC
          refine ready_call 4 ⟨some 33, Op.call { callee := Callee.value (Operand.func 61), args := #[Operand.tmp 31, Operand.tmp 32], argTypes := #[64, 26] }, _, _, _, none⟩ (by kernel_rfl) rfl (by kernel_rfl) (fun KC hK => ?_)
          go_wp2_with fail
          refine (amongL_any g a n cap X _ X0.heap.size _ 3 (fun i => [(-1 : Int), 50, 1000000].getD i 0) 2000000 _ (by omega) HQ.out.1.1 (by omega) (by simp) (by omega) (by omega) (int_new X0 [-1, 50, 1000000] 3) (int_small (L := [-1, 50, 1000000]) (B := 2000000) rfl)).mono ?_
          rintro _ X2 ⟨am, ham, rfl, hd⟩
          have HQ := Hid.intro (HQ.out.draw hd)
          clear hd
          refine hK.out _ _ trivial (fun hHeld => ?_)
          clear hK KC
          refine take_v (v := ?_) 5 ⟨some 34, Op.binOp BinOp.add 3 (Operand.tmp 30) (Operand.tmp 33) 3, _, _, _, none⟩ rfl (fun _ _ _ h => h) ?_ hHeld ?_
          rotate_left
          · (intro W _; go_simp <;> (try with_reducible rfl))
          refine take_v (v := ?_) 6 ⟨some 35, Op.fieldAddr 28 (Operand.tmp 4) 1, _, _, _, none⟩ rfl (fun _ _ _ h => h) ?_ hHeld ?_
          rotate_left
          · (intro W _; go_simp <;> (try with_reducible rfl))
          refine ready_call 7 ⟨none, Op.store 3 (Operand.tmp 35) (Operand.tmp 34), _, _, _, none⟩ (by kernel_rfl) rfl (by kernel_rfl) (fun KC hK => ?_)
          have k1 := HQ.out.2.2.1.cell 1 rfl
          have kf := HQ.out.2.2.1.frz 1 (by simp)
          have kz := HQ.out.2.2.1.2
          go_wp2_with fail
          (obtain ⟨Q, hQ⟩ : ∃ x, x = X2.setCell ⟨b4, 1, none⟩ (.int .i64 (nw + am)) := ⟨_, rfl⟩)
          have HQ := (show Hid (LdS w Q g a n cap X (t + 2008) b4 sk (nw + am) (.slice p3 cl.length q3) cl (ho) un (.slice p4 kn.length q4) (kn)) from Hid.intro (hQ ▸ LdS.up (HQ.out.setN (nw + am)) (by omega)))
          rw [← hQ]
          clear k1 kf kz hQ
          refine hK.out _ _ trivial (fun hHeld => ?_)
          clear hK KC
          refine wpAnyH_done (by kernel_rfl) ?_ _
          refine NoPanic.normal ?_
          clear hHeld
          have HLN : Hid (cl.length ≤ 12 ∧ kn.length ≤ 13) := ⟨hcl, by omega⟩
          have s0 := HQ.out.2.2.1.cell 0 rfl
          have s1 := HQ.out.2.2.1.cell 1 rfl
          have s2 := HQ.out.2.2.1.cell 2 rfl
          have s3 := HQ.out.2.2.1.cell 3 rfl
          have s4 := HQ.out.2.2.1.cell 4 rfl
          have s5 := HQ.out.2.2.1.cell 5 rfl
          have sz := HQ.out.2.2.1.2
          have r0 := HQ.out.2.1.cell 0 rfl
          have r1 := HQ.out.2.1.cell 1 rfl
          have r2 := HQ.out.2.1.cell 2 rfl
          have r3 := HQ.out.2.1.cell 3 rfl
          have r4 := HQ.out.2.1.cell 4 rfl
          have r5 := HQ.out.2.1.cell 5 rfl
          have rz := HQ.out.2.1.2
          have rf0 := HQ.out.2.1.frz 0 (by simp)
          have rf1 := HQ.out.2.1.frz 1 (by simp)
          have rf2 := HQ.out.2.1.frz 2 (by simp)
          have rf3 := HQ.out.2.1.frz 3 (by simp)
          have rf4 := HQ.out.2.1.frz 4 (by simp)
          have rf5 := HQ.out.2.1.frz 5 (by simp)
          have hne : b4 ≠ w.heap.size := Nat.ne_of_gt HQ.out.2.2.2.2.1
          have HF := Hid.intro (HQ.out.done HLN.out (.int .i64 sk) (.int .i64 (nw + am)) (.slice p3 cl.length q3) (.int .i64 (ho)) (.int .i64 un) (.slice p4 kn.length q4))
          go_wp2_with fail
          refine bodyPost_ret (v := .agg #[.int .i64 sk, .int .i64 (nw + am), .slice p3 cl.length q3, .int .i64 (ho), .int .i64 un, .slice p4 kn.length q4]) (by simp [results, Try.results49, go_sem, *]) rfl ?_
          exact LdP.up HF.out (by omega)
        ·
          go_wp2_with fail
          refine (amongL_any g a n cap X _ X0.heap.size _ 3 (fun i => [(-1 : Int), 50, 1000000].getD i 0) 2000000 _ (by omega) HQ.out.1.1 (by omega) (by simp) (by omega) (by omega) (int_new X0 [-1, 50, 1000000] 3) (int_small (L := [-1, 50, 1000000]) (B := 2000000) rfl)).mono ?_
          rintro _ X2 ⟨am, ham, rfl, hd⟩
          have HQ := Hid.intro (HQ.out.draw hd)
          clear hd
          refine hK.out _ _ trivial (fun hHeld => ?_)
          clear hK KC
          refine ready_call 1 ⟨some 30, Op.load 3 (Operand.tmp 29), _, _, _, none⟩ (by kernel_rfl) rfl (by kernel_rfl) (fun KC hK => ?_)
          have k1 := HQ.out.2.2.1.cell 1 rfl
          have kz := HQ.out.2.2.1.2
          go_wp2_with fail
          clear k1 kz
          refine hK.out _ _ trivial (fun hHeld => ?_)
          clear hK KC
          refine take_v (v := ?_) 5 ⟨some 34, Op.binOp BinOp.add 3 (Operand.tmp 30) (Operand.tmp 33) 3, _, _, _, none⟩ rfl (fun _ _ _ h => h) ?_ hHeld ?_
          rotate_left
          · (intro W _; go_simp <;> (try with_reducible rfl))
          refine take_v (v := ?_) 6 ⟨some 35, Op.fieldAddr 28 (Operand.tmp 4) 1, _, _, _, none⟩ rfl (fun _ _ _ h => h) ?_ hHeld ?_
          rotate_left
          · (intro W _; go_simp <;> (try with_reducible rfl))
          refine ready_call 7 ⟨none, Op.store 3 (Operand.tmp 35) (Operand.tmp 34), _, _, _, none⟩ (by kernel_rfl) rfl (by kernel_rfl) (fun KC hK => ?_)
          have k1 := HQ.out.2.2.1.cell 1 rfl
          have kf := HQ.out.2.2.1.frz 1 (by simp)
          have kz := HQ.out.2.2.1.2
          go_wp2_with fail
          (obtain ⟨Q, hQ⟩ : ∃ x, x = X2.setCell ⟨b4, 1, none⟩ (.int .i64 (nw + am)) := ⟨_, rfl⟩)
          have HQ := (show Hid (LdS w Q g a n cap X (t + 2008) b4 sk (nw + am) (.slice p3 cl.length q3) cl (ho) un (.slice p4 kn.length q4) (kn)) from Hid.intro (hQ ▸ LdS.up (HQ.out.setN (nw + am)) (by omega)))
          rw [← hQ]
          clear k1 kf kz hQ
          refine hK.out _ _ trivial (fun hHeld => ?_)
          clear hK KC
          refine wpAnyH_done (by kernel_rfl) ?_ _
          refine NoPanic.normal ?_
          clear hHeld
          have HLN : Hid (cl.length ≤ 12 ∧ kn.length ≤ 13) := ⟨hcl, by omega⟩
          have s0 := HQ.out.2.2.1.cell 0 rfl
          have s1 := HQ.out.2.2.1.cell 1 rfl
          have s2 := HQ.out.2.2.1.cell 2 rfl
          have s3 := HQ.out.2.2.1.cell 3 rfl
          have s4 := HQ.out.2.2.1.cell 4 rfl
          have s5 := HQ.out.2.2.1.cell 5 rfl
          have sz := HQ.out.2.2.1.2
          have r0 := HQ.out.2.1.cell 0 rfl
          have r1 := HQ.out.2.1.cell 1 rfl
          have r2 := HQ.out.2.1.cell 2 rfl
          have r3 := HQ.out.2.1.cell 3 rfl
          have r4 := HQ.out.2.1.cell 4 rfl
          have r5 := HQ.out.2.1.cell 5 rfl
          have rz := HQ.out.2.1.2
          have rf0 := HQ.out.2.1.frz 0 (by simp)
          have rf1 := HQ.out.2.1.frz 1 (by simp)
          have rf2 := HQ.out.2.1.frz 2 (by simp)
          have rf3 := HQ.out.2.1.frz 3 (by simp)
          have rf4 := HQ.out.2.1.frz 4 (by simp)
          have rf5 := HQ.out.2.1.frz 5 (by simp)
          have hne : b4 ≠ w.heap.size := Nat.ne_of_gt HQ.out.2.2.2.2.1
          have HF := Hid.intro (HQ.out.done HLN.out (.int .i64 sk) (.int .i64 (nw + am)) (.slice p3 cl.length q3) (.int .i64 (ho)) (.int .i64 un) (.slice p4 kn.length q4))
          go_wp2_with fail
          refine bodyPost_ret (v := .agg #[.int .i64 sk, .int .i64 (nw + am), .slice p3 cl.length q3, .int .i64 (ho), .int .i64 un, .slice p4 kn.length q4]) (by simp [results, Try.results49, go_sem, *]) rfl ?_
          exact LdP.up HF.out (by omega)
    by_cases e1 : z = 1
    case pos =>
      subst e1
      go_wp2_with fail
      refine (pick_any _ _ _ _ _ _ _ _ (by omega) (by omega) HQ.out.1.1).mono ?_
      rintro _ w6 ⟨y, hy, rfl, hd⟩
      have HQ6 := Hid.intro (HQ.out.draw hd)
      clear hd HQ
      have k3 := HQ6.out.2.2.1.cell 3 rfl
      have kf := HQ6.out.2.2.1.frz 3 (by simp)
      have kz := HQ6.out.2.2.1.2
      obtain ⟨Q, hQ⟩ : ∃ x, x = w6.setCell ⟨b4, 3, none⟩ (.int .i64 (y - 2)) := ⟨_, rfl⟩
      have HQ := Hid.intro (hQ ▸ HQ6.out.setH (y - 2) : LdS w Q g a n cap X (t + 2006 + 2) b4 sk (nw) (.slice p3 cl.length q3) cl (y - 2) un (.slice p4 kn.length q4) (kn))
      have HLN : Hid (cl.length ≤ 12 ∧ kn.length ≤ 13) := ⟨hcl, by omega⟩
      go_upto_region 12 with fail
      rw [← hQ]
      clear hQ k3 kf kz HQ6
      have s0 := HQ.out.2.2.1.cell 0 rfl
      have s1 := HQ.out.2.2.1.cell 1 rfl
      have s2 := HQ.out.2.2.1.cell 2 rfl
      have s3 := HQ.out.2.2.1.cell 3 rfl
      have s4 := HQ.out.2.2.1.cell 4 rfl
      have s5 := HQ.out.2.2.1.cell 5 rfl
      have sz := HQ.out.2.2.1.2
      have r0 := HQ.out.2.1.cell 0 rfl
      have r1 := HQ.out.2.1.cell 1 rfl
      have r2 := HQ.out.2.1.cell 2 rfl
      have r3 := HQ.out.2.1.cell 3 rfl
      have r4 := HQ.out.2.1.cell 4 rfl
      have r5 := HQ.out.2.1.cell 5 rfl
      have rz := HQ.out.2.1.2
      have rf0 := HQ.out.2.1.frz 0 (by simp)
      have rf1 := HQ.out.2.1.frz 1 (by simp)
      have rf2 := HQ.out.2.1.frz 2 (by simp)
      have rf3 := HQ.out.2.1.frz 3 (by simp)
      have rf4 := HQ.out.2.1.frz 4 (by simp)
      have rf5 := HQ.out.2.1.frz 5 (by simp)
      have hne : b4 ≠ w.heap.size := Nat.ne_of_gt HQ.out.2.2.2.2.1
      have HF := Hid.intro (HQ.out.done HLN.out (.int .i64 sk) (.int .i64 (nw)) (.slice p3 cl.length q3) (.int .i64 (y - 2)) (.int .i64 un) (.slice p4 kn.length q4))
      go_wp2_with fail
      refine bodyPost_ret (v := .agg #[.int .i64 sk, .int .i64 (nw), .slice p3 cl.length q3, .int .i64 (y - 2), .int .i64 un, .slice p4 kn.length q4]) (by simp [results, Try.results49, go_sem, *]) rfl ?_
      exact LdP.up HF.out (by omega)
    by_cases e2 : z = 2
    case pos =>
      subst e2
      have HA := Hid.intro (HQ.out.alloc (.cells #[.int .i64 1] 3))
      have k5 := HQ.out.2.2.1.cell 5 rfl
      have kz := HQ.out.2.2.1.2
      have hb1 : kn.length + 1 ≤ maxLen := by unfold maxLen; omega
      have hc1 : (kn.length + 1) * 8 ≤ 140737488355328 := by omega
      go_upto_region 12 with (first
        | (at_builtin; (obtain ⟨S9, hO⟩ := HA.out.row); refine wpList_appx rfl (.tmp 45) (.tmp 46) 26 3 rfl i0 (.int .i64 0) 8 (w.heap.size + 1) .int rfl Try.underlying26 hi0 hz0 hz1 hz2 rfl (by decide) (.slice p4 kn.length q4) kn [1] S9 rfl hO (some ⟨w5.heap.size, 0, none⟩) 1 rfl (lies_one (w := w5) (e := .int) (cs := [.int .i64 1]) (x := (1 : Int)) 3 rfl rfl) hb1 hc1 (by have := HA.out.2.1.2; omega) ?_; intro v9 w9 hO9 hg9 hwh9; obtain ⟨hbx, hLd⟩ := HA.out.app hO9 hg9 hwh9; (obtain ⟨p9, q9, ev⟩ := OwnX.vform (e := .int) hO9); (have ev : v9 = .slice p9 (List.length (α := Sh.T .int) (kn ++ [1])) q9 := ev); subst ev; have HQ9 := Hid.intro hLd; clear k5 kz; have k0 := hbx.cell 0 rfl; have k1 := hbx.cell 1 rfl; have k2 := hbx.cell 2 rfl; have k3 := hbx.cell 3 rfl; have k4 := hbx.cell 4 rfl; have k5 := hbx.cell 5 rfl; have kz := hbx.2; have kf5 := hbx.frz 5 (by simp); clear hO9 hg9 hwh9 hbx hLd; (obtain ⟨N9, hN9⟩ : ∃ x : Nat, x = List.length (α := Sh.T .int) (kn ++ [1]) := ⟨_, rfl⟩); have HN9 := Hid.intro hN9; rw [← hN9] at HQ9 ⊢; have hl13 : N9 ≤ 13 := (by rw [hN9, List.length_append]; simp; omega); clear hN9)
        | go_in)
      (obtain ⟨Q, hQ⟩ : ∃ x, x = w9.setCell ⟨b4, 5, none⟩ (.slice p9 N9 q9) := ⟨_, rfl⟩)
      rw [← hQ] at HQ9
      rw [← hQ]
      clear hQ k0 k1 k2 k3 k4 k5 kz kf5
      have HQ := HQ9
      have HLN : Hid (cl.length ≤ 12 ∧ (kn ++ [(1 : Int)]).length ≤ 13) := ⟨hcl, by have h1 := HN9.out; rw [← show N9 = (kn ++ [(1 : Int)]).length from h1]; exact hl13⟩
      have s0 := HQ.out.2.2.1.cell 0 rfl
      have s1 := HQ.out.2.2.1.cell 1 rfl
      have s2 := HQ.out.2.2.1.cell 2 rfl
      have s3 := HQ.out.2.2.1.cell 3 rfl
      have s4 := HQ.out.2.2.1.cell 4 rfl
      have s5 := HQ.out.2.2.1.cell 5 rfl
      have sz := HQ.out.2.2.1.2
      have r0 := HQ.out.2.1.cell 0 rfl
      have r1 := HQ.out.2.1.cell 1 rfl
      have r2 := HQ.out.2.1.cell 2 rfl
      have r3 := HQ.out.2.1.cell 3 rfl
      have r4 := HQ.out.2.1.cell 4 rfl
      have r5 := HQ.out.2.1.cell 5 rfl
      have rz := HQ.out.2.1.2
      have rf0 := HQ.out.2.1.frz 0 (by simp)
      have rf1 := HQ.out.2.1.frz 1 (by simp)
      have rf2 := HQ.out.2.1.frz 2 (by simp)
      have rf3 := HQ.out.2.1.frz 3 (by simp)
      have rf4 := HQ.out.2.1.frz 4 (by simp)
      have rf5 := HQ.out.2.1.frz 5 (by simp)
      have hne : b4 ≠ w.heap.size := Nat.ne_of_gt HQ.out.2.2.2.2.1
      have HF0 := (HN9.out ▸ HQ.out : LdS w Q g a n cap X (t + 2006) b4 sk nw (.slice p3 cl.length q3) cl ho un (.slice p9 (List.length (α := Sh.T .int) (kn ++ [1])) q9) (kn ++ [1])).done HLN.out (.int .i64 sk) (.int .i64 (nw)) (.slice p3 cl.length q3) (.int .i64 (ho)) (.int .i64 un) (.slice p9 N9 q9)
      rw [← HN9.out] at HF0
      have HF := Hid.intro HF0
      clear HF0
      go_wp2_with fail
      refine bodyPost_ret (v := .agg #[.int .i64 sk, .int .i64 (nw), .slice p3 cl.length q3, .int .i64 (ho), .int .i64 un, .slice p9 N9 q9]) (by simp [results, Try.results49, go_sem, *]) rfl ?_
      exact LdP.up HF.out (by omega)
    have HLN : Hid (cl.length ≤ 12 ∧ kn.length ≤ 13) := ⟨hcl, by omega⟩
    go_upto_region 12 with fail
    have s0 := HQ.out.2.2.1.cell 0 rfl
    have s1 := HQ.out.2.2.1.cell 1 rfl
    have s2 := HQ.out.2.2.1.cell 2 rfl
    have s3 := HQ.out.2.2.1.cell 3 rfl
    have s4 := HQ.out.2.2.1.cell 4 rfl
    have s5 := HQ.out.2.2.1.cell 5 rfl
    have sz := HQ.out.2.2.1.2
    have r0 := HQ.out.2.1.cell 0 rfl
    have r1 := HQ.out.2.1.cell 1 rfl
    have r2 := HQ.out.2.1.cell 2 rfl
    have r3 := HQ.out.2.1.cell 3 rfl
    have r4 := HQ.out.2.1.cell 4 rfl
    have r5 := HQ.out.2.1.cell 5 rfl
    have rz := HQ.out.2.1.2
    have rf0 := HQ.out.2.1.frz 0 (by simp)
    have rf1 := HQ.out.2.1.frz 1 (by simp)
    have rf2 := HQ.out.2.1.frz 2 (by simp)
    have rf3 := HQ.out.2.1.frz 3 (by simp)
    have rf4 := HQ.out.2.1.frz 4 (by simp)
    have rf5 := HQ.out.2.1.frz 5 (by simp)
    have hne : b4 ≠ w.heap.size := Nat.ne_of_gt HQ.out.2.2.2.2.1
    have HF := Hid.intro (HQ.out.done HLN.out (.int .i64 sk) (.int .i64 (nw)) (.slice p3 cl.length q3) (.int .i64 (ho)) (.int .i64 un) (.slice p4 kn.length q4))
    go_wp2_with fail
    refine bodyPost_ret (v := .agg #[.int .i64 sk, .int .i64 (nw), .slice p3 cl.length q3, .int .i64 (ho), .int .i64 un, .slice p4 kn.length q4]) (by simp [results, Try.results49, go_sem, *]) rfl ?_
    exact LdP.up HF.out (by omega)
  case pos =>
    obtain ⟨gx, rfl⟩ : ∃ gx, a2 = some ⟨gx, 0, none⟩ := by
      rcases haf with q | q
      · exfalso
        have h := OwnX.lies H1.out.1.1
        obtain ⟨ad, c, e1, _, _, h⟩ := h
        simp only [List.cons.injEq, Value.slice.injEq, and_true] at e1
        rcases h with h | ⟨g', off, e2, _⟩
        · have h0 : List.length (α := Sh.T shLeaseStep) L = 0 := by rw [show L = [] from h]; rfl
          omega
        · rw [← e1.1, q] at e2; cases e2
      · exact q
    have hcap50 : (50 : Int) ≤ (c2 : Int) := by omega
    obtain ⟨l', hl'⟩ : ∃ x, x = L.take 50 := ⟨_, rfl⟩
    have hl50 : l'.length = 50 := by rw [hl', List.length_take]; omega
    have HL50 := Hid.intro hl50
    have HLT := Hid.intro hl'
    clear hcap haf hl' hl50
    go_wp2_with fail
    refine (pick_any _ _ _ _ _ _ _ _ (by omega) (by omega) H1.out.1.2.1).mono ?_
    rintro _ w2 ⟨x1, hx1, rfl, hd⟩
    have H2 : Hid (DvH tyLStep 34 w2 w g a n cap X (t + 2002) (.slice (some ⟨gx, 0, none⟩) L.length c2) L ∧ Bx w2 w.heap.size [.int .i64 0, .int .i64 0, .slice none 0 0, .int .i64 0, .int .i64 0, .slice none 0 0]) := dv_step H1.out hd hgw
    clear hd H1
    go_wp2_with fail
    refine (pick_any _ _ _ _ _ _ _ _ (by omega) (by omega) H2.out.1.2.1).mono ?_
    rintro _ w3 ⟨x2, hx2, rfl, hd⟩
    have H3 : Hid (DvH tyLStep 34 w3 w g a n cap X (t + 2004) (.slice (some ⟨gx, 0, none⟩) L.length c2) L ∧ Bx w3 w.heap.size [.int .i64 0, .int .i64 0, .slice none 0 0, .int .i64 0, .int .i64 0, .slice none 0 0]) := dv_step H2.out hd hgw
    clear hd H2
    go_wp2_with fail
    refine (show Calls Try.prog 12 #[.int .i64 (1 + x1), .int .i64 x2, .slice (some ⟨gx, 0, none⟩) 50 c2] w3 (LpX (1 + x1) x2 l' w3) from HL50.out ▸ specPlayLeases_x (1 + x1) x2 (some ⟨gx, 0, none⟩) c2 l' w3 (by rw [HL50.out]; decide) (by rw [HL50.out, HLT.out]; exact Lies.take (OwnX.lies H3.out.1.1) 50 (by show 50 ≤ List.length (α := Sh.T shLeaseStep) L; omega))).mono ?_
    intro r w4 hX
    obtain ⟨sk, nw, cl, ho, un, kn, p3, q3, p4, q4, v9, z9, rfl, hnw, hcl, hkn, hLd⟩ := LpX.box hX H3.out.1.2 hgw H3.out.2.2 H3.out.2
    obtain ⟨b4, hb4⟩ : ∃ y, y = w4.heap.size := ⟨_, rfl⟩
    obtain ⟨Y, hY⟩ : ∃ x, x = w4.alloc (.cells #[.int .i64 sk, .int .i64 nw, .slice p3 cl.length q3, .int .i64 ho, .int .i64 un, .slice p4 kn.length q4] 28) := ⟨_, rfl⟩
    rw [← hb4, ← hY] at hLd
    have HQ0 := Hid.intro hLd
    clear hX hLd H3
    go_wp2_with fail
    rw [← hY, ← hb4]
    clear hY hb4
    refine (pick_any _ _ _ _ _ _ _ _ (by omega) (by omega) HQ0.out.1.1).mono ?_
    rintro _ w5 ⟨z, hzb, rfl, hd⟩
    have HQ : Hid (LdS w w5 g a n cap X (t + 2006) b4 sk (nw) (.slice p3 cl.length q3) cl (ho) un (.slice p4 kn.length q4) (kn)) := Hid.intro (HQ0.out.draw hd)
    clear hd HQ0
    by_cases e0 : z = 0
    case pos =>
      subst e0
      go_upto_region 7 with fail
      have HQ := (show Hid (LdS w w5.drew g a n cap X (t + 2006) b4 sk (nw) (.slice p3 cl.length q3) cl (ho) un (.slice p4 kn.length q4) (kn)) from ⟨⟨HQ.out.1.1.next (below_drew _), HQ.out.1.2.next (below_drew _)⟩, HQ.out.2⟩)
      refine wp_region_noPanic ?_
      refine wp_region_held_drew (S := fun _ => True) (by kernel_rfl) trivial (fun hHeld => ?_)
      obtain ⟨X0, hX0⟩ : ∃ x, x = w5.drew := ⟨_, rfl⟩
      rw [← hX0] at HQ ⊢
      clear hX0
      refine take_v (v := ?_) 0 ⟨some 29, Op.fieldAddr 28 (Operand.tmp 4) 1, _, _, _, none⟩ rfl (fun _ _ _ h => h) ?_ hHeld ?_
      rotate_left
      · (intro W _; go_simp <;> (try with_reducible rfl))
      refine take_v (v := ?_) 2 ⟨some 31, Op.move (Operand.tmp 0), _, _, _, none⟩ rfl (fun _ _ _ h => h) ?_ hHeld ?_
      rotate_left
      · (intro W _; go_simp <;> (try with_reducible rfl))
      refine ready_two 1 3 ⟨some 30, Op.load 3 (Operand.tmp 29), _, _, _, none⟩ ⟨some 32, Op.buildSlice 26 3 #[(0, Operand.const (Value.int IntKind.i64 (-1))), (1, Operand.const (Value.int IntKind.i64 50)), (2, Operand.const (Value.int IntKind.i64 1000000))], _, _, _, none⟩ (by kernel_rfl) rfl rfl (by kernel_rfl) (by kernel_rfl) (fun KC hK => ?_) (fun KC hK => ?_)
      ·
        have k1 := HQ.out.2.2.1.cell 1 rfl
        have kz := HQ.out.2.2.1.2
        go_wp2_with fail
        clear k1 kz
        refine hK.out _ _ trivial (fun hHeld => ?_)
        clear hK KC
        refine ready_call 3 ⟨some 32, Op.buildSlice 26 3 #[(0, Operand.const (Value.int IntKind.i64 (-1))), (1, Operand.const (Value.int IntKind.i64 50)), (2, Operand.const (Value.int IntKind.i64 1000000))], _, _, _, none⟩ (by kernel_rfl) rfl (by kernel_rfl) (fun KC hK => ?_)
        go_wp2_with fail
        have hgz : g < X0.heap.size := by have h1 := HQ.out.2.1.2; omega
        have HQ := Hid.intro (HQ.out.alloc (.cells #[.int .i64 (-1), .int .i64 50, .int .i64 1000000] 3))
        refine hK.out _ _ trivial (fun hHeld => ?_)
        clear hK KC
        refine ready_call 4 ⟨some 33, Op.call { callee := Callee.value (Operand.func 61), args := #[Operand.tmp 31, Operand.tmp 32], argTypes := #[64, 26] }, _, _, _, none⟩ (by kernel_rfl) rfl (by kernel_rfl) (fun KC hK => ?_)
        go_wp2_with fail
        refine (amongL_any g a n cap X _ X0.heap.size _ 3 (fun i => [(-1 : Int), 50, 1000000].getD i 0) 2000000 _ (by omega) HQ.out.1.1 (by omega) (by simp) (by omega) (by omega) (int_new X0 [-1, 50, 1000000] 3) (int_small (L := [-1, 50, 1000000]) (B := 2000000) rfl)).mono ?_
        rintro _ X2 ⟨am, ham, rfl, hd⟩
        have HQ := Hid.intro (HQ.out.draw hd)
        clear hd
        refine hK.out _ _ trivial (fun hHeld => ?_)
        clear hK KC
        refine take_v (v := ?_) 5 ⟨some 34, Op.binOp BinOp.add 3 (Operand.tmp 30) (Operand.tmp 33) 3, _, _, _, none⟩ rfl (fun _ _ _ h => h) ?_ hHeld ?_
        rotate_left
        · (intro W _; go_simp <;> (try with_reducible rfl))
        refine take_v (v := ?_) 6 ⟨some 35, Op.fieldAddr 28 (Operand.tmp 4) 1, _, _, _, none⟩ rfl (fun _ _ _ h => h) ?_ hHeld ?_
        rotate_left
        · (intro W _; go_simp <;> (try with_reducible rfl))
        refine ready_call 7 ⟨none, Op.store 3 (Operand.tmp 35) (Operand.tmp 34), _, _, _, none⟩ (by kernel_rfl) rfl (by kernel_rfl) (fun KC hK => ?_)
        have k1 := HQ.out.2.2.1.cell 1 rfl
        have kf := HQ.out.2.2.1.frz 1 (by simp)
        have kz := HQ.out.2.2.1.2
        go_wp2_with fail
        (obtain ⟨Q, hQ⟩ : ∃ x, x = X2.setCell ⟨b4, 1, none⟩ (.int .i64 (nw + am)) := ⟨_, rfl⟩)
        have HQ := (show Hid (LdS w Q g a n cap X (t + 2008) b4 sk (nw + am) (.slice p3 cl.length q3) cl (ho) un (.slice p4 kn.length q4) (kn)) from Hid.intro (hQ ▸ LdS.up (HQ.out.setN (nw + am)) (by omega)))
        rw [← hQ]
        clear k1 kf kz hQ
        refine hK.out _ _ trivial (fun hHeld => ?_)
        clear hK KC
        refine wpAnyH_done (by kernel_rfl) ?_ _
        refine NoPanic.normal ?_
        clear hHeld
        have HLN : Hid (cl.length ≤ 12 ∧ kn.length ≤ 13) := ⟨hcl, by omega⟩
        have s0 := HQ.out.2.2.1.cell 0 rfl
        have s1 := HQ.out.2.2.1.cell 1 rfl
        have s2 := HQ.out.2.2.1.cell 2 rfl
        have s3 := HQ.out.2.2.1.cell 3 rfl
        have s4 := HQ.out.2.2.1.cell 4 rfl
        have s5 := HQ.out.2.2.1.cell 5 rfl
        have sz := HQ.out.2.2.1.2
        have r0 := HQ.out.2.1.cell 0 rfl
        have r1 := HQ.out.2.1.cell 1 rfl
        have r2 := HQ.out.2.1.cell 2 rfl
        have r3 := HQ.out.2.1.cell 3 rfl
        have r4 := HQ.out.2.1.cell 4 rfl
        have r5 := HQ.out.2.1.cell 5 rfl
        have rz := HQ.out.2.1.2
        have rf0 := HQ.out.2.1.frz 0 (by simp)
        have rf1 := HQ.out.2.1.frz 1 (by simp)
        have rf2 := HQ.out.2.1.frz 2 (by simp)
        have rf3 := HQ.out.2.1.frz 3 (by simp)
        have rf4 := HQ.out.2.1.frz 4 (by simp)
        have rf5 := HQ.out.2.1.frz 5 (by simp)
        have hne : b4 ≠ w.heap.size := Nat.ne_of_gt HQ.out.2.2.2.2.1
        have HF := Hid.intro (HQ.out.done HLN.out (.int .i64 sk) (.int .i64 (nw + am)) (.slice p3 cl.length q3) (.int .i64 (ho)) (.int .i64 un) (.slice p4 kn.length q4))
        go_wp2_with fail
        refine bodyPost_ret (v := .agg #[.int .i64 sk, .int .i64 (nw + am), .slice p3 cl.length q3, .int .i64 (ho), .int .i64 un, .slice p4 kn.length q4]) (by simp [results, Try.results49, go_sem, *]) rfl ?_
        exact LdP.up HF.out (by omega)
      ·
        go_wp2_with fail
        have hgz : g < X0.heap.size := by have h1 := HQ.out.2.1.2; omega
        have HQ := Hid.intro (HQ.out.alloc (.cells #[.int .i64 (-1), .int .i64 50, .int .i64 1000000] 3))
        refine hK.out _ _ trivial (fun hHeld => ?_)
        clear hK KC
        refine ready_two 1 4 ⟨some 30, Op.load 3 (Operand.tmp 29), _, _, _, none⟩ ⟨some 33, Op.call { callee := Callee.value (Operand.func 61), args := #[Operand.tmp 31, Operand.tmp 32], argTypes := #[64, 26] }, _, _, _, none⟩ (by kernel_rfl) rfl rfl (by kernel_rfl) (by kernel_rfl) (fun KC hK => ?_) (fun KC hK => ?_)
        ·
          have k1 := HQ.out.2.2.1.cell 1 rfl
          have kz := HQ.out.2.2.1.2
          go_wp2_with fail
          clear k1 kz
          refine hK.out _ _ trivial (fun hHeld => ?_)
          clear hK KC
          refine ready_call 4 ⟨some 33, Op.call { callee := Callee.value (Operand.func 61), args := #[Operand.tmp 31, Operand.tmp 32], argTypes := #[64, 26] }, _, _, _, none⟩ (by kernel_rfl) rfl (by kernel_rfl) (fun KC hK => ?_)
          go_wp2_with fail
          refine (amongL_any g a n cap X _ X0.heap.size _ 3 (fun i => [(-1 : Int), 50, 1000000].getD i 0) 2000000 _ (by omega) HQ.out.1.1 (by omega) (by simp) (by omega) (by omega) (int_new X0 [-1, 50, 1000000] 3) (int_small (L := [-1, 50, 1000000]) (B := 2000000) rfl)).mono ?_
          rintro _ X2 ⟨am, ham, rfl, hd⟩
          have HQ := Hid.intro (HQ.out.draw hd)
          clear hd
          refine hK.out _ _ trivial (fun hHeld => ?_)
          clear hK KC
          refine take_v (v := ?_) 5 ⟨some 34, Op.binOp BinOp.add 3 (Operand.tmp 30) (Operand.tmp 33) 3, _, _, _, none⟩ rfl (fun _ _ _ h => h) ?_ hHeld ?_
          rotate_left
          · (intro W _; go_simp <;> (try with_reducible rfl))
          refine take_v (v := ?_) 6 ⟨some 35, Op.fieldAddr 28 (Operand.tmp 4) 1, _, _, _, none⟩ rfl (fun _ _ _ h => h) ?_ hHeld ?_
          rotate_left
          · (intro W _; go_simp <;> (try with_reducible rfl))
          refine ready_call 7 ⟨none, Op.store 3 (Operand.tmp 35) (Operand.tmp 34), _, _, _, none⟩ (by kernel_rfl) rfl (by kernel_rfl) (fun KC hK => ?_)
          have k1 := HQ.out.2.2.1.cell 1 rfl
          have kf := HQ.out.2.2.1.frz 1 (by simp)
          have kz := HQ.out.2.2.1.2
          go_wp2_with fail
          (obtain ⟨Q, hQ⟩ : ∃ x, x = X2.setCell ⟨b4, 1, none⟩ (.int .i64 (nw + am)) := ⟨_, rfl⟩)
          have HQ := (show Hid (LdS w Q g a n cap X (t + 2008) b4 sk (nw + am) (.slice p3 cl.length q3) cl (ho) un (.slice p4 kn.length q4) (kn)) from Hid.intro (hQ ▸ LdS.up (HQ.out.setN (nw + am)) (by omega)))
          rw [← hQ]
          clear k1 kf kz hQ
          refine hK.out _ _ trivial (fun hHeld => ?_)
          clear hK KC
          refine wpAnyH_done (by kernel_rfl) ?_ _
          refine NoPanic.normal ?_
          clear hHeld
          have HLN : Hid (cl.length ≤ 12 ∧ kn.length ≤ 13) := ⟨hcl, by omega⟩
          have s0 := HQ.out.2.2.1.cell 0 rfl
          have s1 := HQ.out.2.2.1.cell 1 rfl
          have s2 := HQ.out.2.2.1.cell 2 rfl
          have s3 := HQ.out.2.2.1.cell 3 rfl
          have s4 := HQ.out.2.2.1.cell 4 rfl
          have s5 := HQ.out.2.2.1.cell 5 rfl
          have sz := HQ.out.2.2.1.2
          have r0 := HQ.out.2.1.cell 0 rfl
          have r1 := HQ.out.2.1.cell 1 rfl
          have r2 := HQ.out.2.1.cell 2 rfl
          have r3 := HQ.out.2.1.cell 3 rfl
          have r4 := HQ.out.2.1.cell 4 rfl
          have r5 := HQ.out.2.1.cell 5 rfl
          have rz := HQ.out.2.1.2
          have rf0 := HQ.out.2.1.frz 0 (by simp)
          have rf1 := HQ.out.2.1.frz 1 (by simp)
          have rf2 := HQ.out.2.1.frz 2 (by simp)
          have rf3 := HQ.out.2.1.frz 3 (by simp)
          have rf4 := HQ.out.2.1.frz 4 (by simp)
          have rf5 := HQ.out.2.1.frz 5 (by simp)
          have hne : b4 ≠ w.heap.size := Nat.ne_of_gt HQ.out.2.2.2.2.1
          have HF := Hid.intro (HQ.out.done HLN.out (.int .i64 sk) (.int .i64 (nw + am)) (.slice p3 cl.length q3) (.int .i64 (ho)) (.int .i64 un) (.slice p4 kn.length q4))
          go_wp2_with fail
          refine bodyPost_ret (v := .agg #[.int .i64 sk, .int .i64 (nw + am), .slice p3 cl.length q3, .int .i64 (ho), .int .i64 un, .slice p4 kn.length q4]) (by simp [results, Try.results49, go_sem, *]) rfl ?_
          exact LdP.up HF.out (by omega)
        ·
          go_wp2_with fail
          refine (amongL_any g a n cap X _ X0.heap.size _ 3 (fun i => [(-1 : Int), 50, 1000000].getD i 0) 2000000 _ (by omega) HQ.out.1.1 (by omega) (by simp) (by omega) (by omega) (int_new X0 [-1, 50, 1000000] 3) (int_small (L := [-1, 50, 1000000]) (B := 2000000) rfl)).mono ?_
          rintro _ X2 ⟨am, ham, rfl, hd⟩
          have HQ := Hid.intro (HQ.out.draw hd)
          clear hd
          refine hK.out _ _ trivial (fun hHeld => ?_)
          clear hK KC
          refine ready_call 1 ⟨some 30, Op.load 3 (Operand.tmp 29), _, _, _, none⟩ (by kernel_rfl) rfl (by kernel_rfl) (fun KC hK => ?_)
          have k1 := HQ.out.2.2.1.cell 1 rfl
          have kz := HQ.out.2.2.1.2
          go_wp2_with fail
          clear k1 kz
          refine hK.out _ _ trivial (fun hHeld => ?_)
          clear hK KC
          refine take_v (v := ?_) 5 ⟨some 34, Op.binOp BinOp.add 3 (Operand.tmp 30) (Operand.tmp 33) 3, _, _, _, none⟩ rfl (fun _ _ _ h => h) ?_ hHeld ?_
          rotate_left
          · (intro W _; go_simp <;> (try with_reducible rfl))
          refine take_v (v := ?_) 6 ⟨some 35, Op.fieldAddr 28 (Operand.tmp 4) 1, _, _, _, none⟩ rfl (fun _ _ _ h => h) ?_ hHeld ?_
          rotate_left
          · (intro W _; go_simp <;> (try with_reducible rfl))
          refine ready_call 7 ⟨none, Op.store 3 (Operand.tmp 35) (Operand.tmp 34), _, _, _, none⟩ (by kernel_rfl) rfl (by kernel_rfl) (fun KC hK => ?_)
          have k1 := HQ.out.2.2.1.cell 1 rfl
          have kf := HQ.out.2.2.1.frz 1 (by simp)
          have kz := HQ.out.2.2.1.2
          go_wp2_with fail
          (obtain ⟨Q, hQ⟩ : ∃ x, x = X2.setCell ⟨b4, 1, none⟩ (.int .i64 (nw + am)) := ⟨_, rfl⟩)
          have HQ := (show Hid (LdS w Q g a n cap X (t + 2008) b4 sk (nw + am) (.slice p3 cl.length q3) cl (ho) un (.slice p4 kn.length q4) (kn)) from Hid.intro (hQ ▸ LdS.up (HQ.out.setN (nw + am)) (by omega)))
          rw [← hQ]
          clear k1 kf kz hQ
          refine hK.out _ _ trivial (fun hHeld => ?_)
          clear hK KC
          refine wpAnyH_done (by kernel_rfl) ?_ _
          refine NoPanic.normal ?_
          clear hHeld
          have HLN : Hid (cl.length ≤ 12 ∧ kn.length ≤ 13) := ⟨hcl, by omega⟩
          have s0 := HQ.out.2.2.1.cell 0 rfl
          have s1 := HQ.out.2.2.1.cell 1 rfl
          have s2 := HQ.out.2.2.1.cell 2 rfl
          have s3 := HQ.out.2.2.1.cell 3 rfl
          have s4 := HQ.out.2.2.1.cell 4 rfl
          have s5 := HQ.out.2.2.1.cell 5 rfl
          have sz := HQ.out.2.2.1.2
          have r0 := HQ.out.2.1.cell 0 rfl
          have r1 := HQ.out.2.1.cell 1 rfl
          have r2 := HQ.out.2.1.cell 2 rfl
          have r3 := HQ.out.2.1.cell 3 rfl
          have r4 := HQ.out.2.1.cell 4 rfl
          have r5 := HQ.out.2.1.cell 5 rfl
          have rz := HQ.out.2.1.2
          have rf0 := HQ.out.2.1.frz 0 (by simp)
          have rf1 := HQ.out.2.1.frz 1 (by simp)
          have rf2 := HQ.out.2.1.frz 2 (by simp)
          have rf3 := HQ.out.2.1.frz 3 (by simp)
          have rf4 := HQ.out.2.1.frz 4 (by simp)
          have rf5 := HQ.out.2.1.frz 5 (by simp)
          have hne : b4 ≠ w.heap.size := Nat.ne_of_gt HQ.out.2.2.2.2.1
          have HF := Hid.intro (HQ.out.done HLN.out (.int .i64 sk) (.int .i64 (nw + am)) (.slice p3 cl.length q3) (.int .i64 (ho)) (.int .i64 un) (.slice p4 kn.length q4))
          go_wp2_with fail
          refine bodyPost_ret (v := .agg #[.int .i64 sk, .int .i64 (nw + am), .slice p3 cl.length q3, .int .i64 (ho), .int .i64 un, .slice p4 kn.length q4]) (by simp [results, Try.results49, go_sem, *]) rfl ?_
          exact LdP.up HF.out (by omega)
    by_cases e1 : z = 1
    case pos =>
      subst e1
      go_wp2_with fail
      refine (pick_any _ _ _ _ _ _ _ _ (by omega) (by omega) HQ.out.1.1).mono ?_
      rintro _ w6 ⟨y, hy, rfl, hd⟩
      have HQ6 := Hid.intro (HQ.out.draw hd)
      clear hd HQ
      have k3 := HQ6.out.2.2.1.cell 3 rfl
      have kf := HQ6.out.2.2.1.frz 3 (by simp)
      have kz := HQ6.out.2.2.1.2
      obtain ⟨Q, hQ⟩ : ∃ x, x = w6.setCell ⟨b4, 3, none⟩ (.int .i64 (y - 2)) := ⟨_, rfl⟩
      have HQ := Hid.intro (hQ ▸ HQ6.out.setH (y - 2) : LdS w Q g a n cap X (t + 2006 + 2) b4 sk (nw) (.slice p3 cl.length q3) cl (y - 2) un (.slice p4 kn.length q4) (kn))
      have HLN : Hid (cl.length ≤ 12 ∧ kn.length ≤ 13) := ⟨hcl, by omega⟩
      go_upto_region 12 with fail
      rw [← hQ]
      clear hQ k3 kf kz HQ6
      have s0 := HQ.out.2.2.1.cell 0 rfl
      have s1 := HQ.out.2.2.1.cell 1 rfl
      have s2 := HQ.out.2.2.1.cell 2 rfl
      have s3 := HQ.out.2.2.1.cell 3 rfl
      have s4 := HQ.out.2.2.1.cell 4 rfl
      have s5 := HQ.out.2.2.1.cell 5 rfl
      have sz := HQ.out.2.2.1.2
      have r0 := HQ.out.2.1.cell 0 rfl
      have r1 := HQ.out.2.1.cell 1 rfl
      have r2 := HQ.out.2.1.cell 2 rfl
      have r3 := HQ.out.2.1.cell 3 rfl
      have r4 := HQ.out.2.1.cell 4 rfl
      have r5 := HQ.out.2.1.cell 5 rfl
      have rz := HQ.out.2.1.2
      have rf0 := HQ.out.2.1.frz 0 (by simp)
      have rf1 := HQ.out.2.1.frz 1 (by simp)
      have rf2 := HQ.out.2.1.frz 2 (by simp)
      have rf3 := HQ.out.2.1.frz 3 (by simp)
      have rf4 := HQ.out.2.1.frz 4 (by simp)
      have rf5 := HQ.out.2.1.frz 5 (by simp)
      have hne : b4 ≠ w.heap.size := Nat.ne_of_gt HQ.out.2.2.2.2.1
      have HF := Hid.intro (HQ.out.done HLN.out (.int .i64 sk) (.int .i64 (nw)) (.slice p3 cl.length q3) (.int .i64 (y - 2)) (.int .i64 un) (.slice p4 kn.length q4))
      go_wp2_with fail
      refine bodyPost_ret (v := .agg #[.int .i64 sk, .int .i64 (nw), .slice p3 cl.length q3, .int .i64 (y - 2), .int .i64 un, .slice p4 kn.length q4]) (by simp [results, Try.results49, go_sem, *]) rfl ?_
      exact LdP.up HF.out (by omega)
    by_cases e2 : z = 2
    case pos =>
      subst e2
      have HA := Hid.intro (HQ.out.alloc (.cells #[.int .i64 1] 3))
      have k5 := HQ.out.2.2.1.cell 5 rfl
      have kz := HQ.out.2.2.1.2
      have hb1 : kn.length + 1 ≤ maxLen := by unfold maxLen; omega
      have hc1 : (kn.length + 1) * 8 ≤ 140737488355328 := by omega
      go_upto_region 12 with (first
        | (at_builtin; (obtain ⟨S9, hO⟩ := HA.out.row); refine wpList_appx rfl (.tmp 45) (.tmp 46) 26 3 rfl i0 (.int .i64 0) 8 (w.heap.size + 1) .int rfl Try.underlying26 hi0 hz0 hz1 hz2 rfl (by decide) (.slice p4 kn.length q4) kn [1] S9 rfl hO (some ⟨w5.heap.size, 0, none⟩) 1 rfl (lies_one (w := w5) (e := .int) (cs := [.int .i64 1]) (x := (1 : Int)) 3 rfl rfl) hb1 hc1 (by have := HA.out.2.1.2; omega) ?_; intro v9 w9 hO9 hg9 hwh9; obtain ⟨hbx, hLd⟩ := HA.out.app hO9 hg9 hwh9; (obtain ⟨p9, q9, ev⟩ := OwnX.vform (e := .int) hO9); (have ev : v9 = .slice p9 (List.length (α := Sh.T .int) (kn ++ [1])) q9 := ev); subst ev; have HQ9 := Hid.intro hLd; clear k5 kz; have k0 := hbx.cell 0 rfl; have k1 := hbx.cell 1 rfl; have k2 := hbx.cell 2 rfl; have k3 := hbx.cell 3 rfl; have k4 := hbx.cell 4 rfl; have k5 := hbx.cell 5 rfl; have kz := hbx.2; have kf5 := hbx.frz 5 (by simp); clear hO9 hg9 hwh9 hbx hLd; (obtain ⟨N9, hN9⟩ : ∃ x : Nat, x = List.length (α := Sh.T .int) (kn ++ [1]) := ⟨_, rfl⟩); have HN9 := Hid.intro hN9; rw [← hN9] at HQ9 ⊢; have hl13 : N9 ≤ 13 := (by rw [hN9, List.length_append]; simp; omega); clear hN9)
        | go_in)
      (obtain ⟨Q, hQ⟩ : ∃ x, x = w9.setCell ⟨b4, 5, none⟩ (.slice p9 N9 q9) := ⟨_, rfl⟩)
      rw [← hQ] at HQ9
      rw [← hQ]
      clear hQ k0 k1 k2 k3 k4 k5 kz kf5
      have HQ := HQ9
      have HLN : Hid (cl.length ≤ 12 ∧ (kn ++ [(1 : Int)]).length ≤ 13) := ⟨hcl, by have h1 := HN9.out; rw [← show N9 = (kn ++ [(1 : Int)]).length from h1]; exact hl13⟩
      have s0 := HQ.out.2.2.1.cell 0 rfl
      have s1 := HQ.out.2.2.1.cell 1 rfl
      have s2 := HQ.out.2.2.1.cell 2 rfl
      have s3 := HQ.out.2.2.1.cell 3 rfl
      have s4 := HQ.out.2.2.1.cell 4 rfl
      have s5 := HQ.out.2.2.1.cell 5 rfl
      have sz := HQ.out.2.2.1.2
      have r0 := HQ.out.2.1.cell 0 rfl
      have r1 := HQ.out.2.1.cell 1 rfl
      have r2 := HQ.out.2.1.cell 2 rfl
      have r3 := HQ.out.2.1.cell 3 rfl
      have r4 := HQ.out.2.1.cell 4 rfl
      have r5 := HQ.out.2.1.cell 5 rfl
      have rz := HQ.out.2.1.2
      have rf0 := HQ.out.2.1.frz 0 (by simp)
      have rf1 := HQ.out.2.1.frz 1 (by simp)
      have rf2 := HQ.out.2.1.frz 2 (by simp)
      have rf3 := HQ.out.2.1.frz 3 (by simp)
      have rf4 := HQ.out.2.1.frz 4 (by simp)
      have rf5 := HQ.out.2.1.frz 5 (by simp)
      have hne : b4 ≠ w.heap.size := Nat.ne_of_gt HQ.out.2.2.2.2.1
      have HF0 := (HN9.out ▸ HQ.out : LdS w Q g a n cap X (t + 2006) b4 sk nw (.slice p3 cl.length q3) cl ho un (.slice p9 (List.length (α := Sh.T .int) (kn ++ [1])) q9) (kn ++ [1])).done HLN.out (.int .i64 sk) (.int .i64 (nw)) (.slice p3 cl.length q3) (.int .i64 (ho)) (.int .i64 un) (.slice p9 N9 q9)
      rw [← HN9.out] at HF0
      have HF := Hid.intro HF0
      clear HF0
      go_wp2_with fail
      refine bodyPost_ret (v := .agg #[.int .i64 sk, .int .i64 (nw), .slice p3 cl.length q3, .int .i64 (ho), .int .i64 un, .slice p9 N9 q9]) (by simp [results, Try.results49, go_sem, *]) rfl ?_
      exact LdP.up HF.out (by omega)
    have HLN : Hid (cl.length ≤ 12 ∧ kn.length ≤ 13) := ⟨hcl, by omega⟩
    go_upto_region 12 with fail
    have s0 := HQ.out.2.2.1.cell 0 rfl
    have s1 := HQ.out.2.2.1.cell 1 rfl
    have s2 := HQ.out.2.2.1.cell 2 rfl
    have s3 := HQ.out.2.2.1.cell 3 rfl
    have s4 := HQ.out.2.2.1.cell 4 rfl
    have s5 := HQ.out.2.2.1.cell 5 rfl
    have sz := HQ.out.2.2.1.2
    have r0 := HQ.out.2.1.cell 0 rfl
    have r1 := HQ.out.2.1.cell 1 rfl
    have r2 := HQ.out.2.1.cell 2 rfl
    have r3 := HQ.out.2.1.cell 3 rfl
    have r4 := HQ.out.2.1.cell 4 rfl
    have r5 := HQ.out.2.1.cell 5 rfl
    have rz := HQ.out.2.1.2
    have rf0 := HQ.out.2.1.frz 0 (by simp)
    have rf1 := HQ.out.2.1.frz 1 (by simp)
    have rf2 := HQ.out.2.1.frz 2 (by simp)
    have rf3 := HQ.out.2.1.frz 3 (by simp)
    have rf4 := HQ.out.2.1.frz 4 (by simp)
    have rf5 := HQ.out.2.1.frz 5 (by simp)
    have hne : b4 ≠ w.heap.size := Nat.ne_of_gt HQ.out.2.2.2.2.1
    have HF := Hid.intro (HQ.out.done HLN.out (.int .i64 sk) (.int .i64 (nw)) (.slice p3 cl.length q3) (.int .i64 (ho)) (.int .i64 un) (.slice p4 kn.length q4))
    go_wp2_with fail
    refine bodyPost_ret (v := .agg #[.int .i64 sk, .int .i64 (nw), .slice p3 cl.length q3, .int .i64 (ho), .int .i64 un, .slice p4 kn.length q4]) (by simp [results, Try.results49, go_sem, *]) rfl ?_
    exact LdP.up HF.out (by omega)
/-- A play that was drawn. -/
def DplP (w : World) (r : Ending) (w' : World) : Prop := ∃ (m sk : Int) (l : List (Sh.T shLeaseStep)) (a2 : Option Addr) (k2 : Nat), l.length ≤ 102 ∧ r = .returned (.tuple #[.int .i64 m, .int .i64 sk, .slice a2 l.length k2]) ∧ Lies w' (.list shLeaseStep) [.slice a2 l.length k2] l ∧ Below w.heap.size w w'
/-- What has turned since the cursor was laid is new. -/
theorem drew_below {w w0 W : World} {g : Nat} {a : Option Addr} {n cap : Nat} {X : Nat → Int} {t : Nat} (h0 : Below w.heap.size w w0) (h : Drew g a n cap X t w0 W) (hg : w.heap.size ≤ g) : Below w.heap.size w W :=
  ⟨h.2.1.trans h0.os, h.2.2.1.trans h0.tape, h.2.2.2.1.trans h0.output, Nat.le_trans h0.size h.2.2.2.2.1, fun j hj => (h.2.2.2.2.2 j (Nat.lt_of_lt_of_le hj h0.size) (by omega)).trans (h0.block j hj)⟩

set_option maxRecDepth 100000 in
set_option maxHeartbeats 4000000 in
theorem drawPlayLeases_any (a : Option Addr) (n cap : Nat) (X : Nat → Int) (w : World) (hn : n ≤ 9223372036854775807) (hs : Sl w a n 1 (byF X)) (hX : ∀ i, i < n → 0 ≤ X i ∧ X i ≤ 255) :
    Calls Try.prog 10 #[.slice a n cap] w (DplP w) := by
  obtain ⟨w0, hw0⟩ : ∃ x, x = w.alloc (.cells #[.slice a n cap, .int .i64 0, .int .u64 0] 67) := ⟨_, rfl⟩
  have HC : Hid (Cur w0 w.heap.size a n cap X 0 ∧ Below w.heap.size w w0) := ⟨hw0 ▸ Cur.new _ hs hn hX, hw0 ▸ Go.Joins.below_alloc1 _ _⟩
  clear hs hX
  go_enter Try.func10, Try.ntmps10
  go_wp2_with fail
  rw [← hw0]
  clear hw0
  refine (pick_any _ _ _ _ _ _ _ _ (by omega) (by omega) HC.out.1).mono ?_
  rintro _ w1 ⟨x1, hx1, rfl, hd⟩
  have H1 : Hid (Drew w.heap.size a n cap X 2 w0 w1) := hd
  clear hd
  go_wp2_with fail
  refine (pick_any _ _ _ _ _ _ _ _ (by omega) (by omega) H1.out.1).mono ?_
  rintro _ w2 ⟨x2, hx2, rfl, hd⟩
  have H2 : Hid (Drew w.heap.size a n cap X 4 w0 w2) := H1.out.trans hd
  clear hd H1
  go_wp2_with fail
  refine (leaseSteps_any _ _ _ _ _ _ _ (by omega) H2.out.1).mono ?_
  rintro _ w3 ⟨l, v, hl, rfl, hd⟩
  obtain ⟨a2, c2, e1⟩ := hd.1.vform
  have e1 : v = .slice a2 (List.length (α := Sh.T shLeaseStep) l) c2 := e1
  subst e1
  have HP : Hid (DplP w (.returned (.tuple #[.int .i64 (1 + x1), .int .i64 x2, .slice a2 l.length c2])) w3) := Hid.intro ⟨1 + x1, x2, l, a2, c2, hl, rfl, OwnX.lies hd.1, drew_below HC.out.2 (H2.out.trans hd.2) (Nat.le_refl _)⟩
  clear hd H2 hl
  go_wp2
  exact bodyPost_ret (v := .tuple #[.int .i64 (1 + x1), .int .i64 x2, .slice a2 l.length c2]) (by simp [results, Try.results10, go_sem, *]) rfl HP.out
/-- Leases and a step that were drawn. -/
def DslP (w : World) (r : Ending) (w' : World) : Prop := ∃ (sk nw : Int) (cl : List (Sh.T .int)) (ho un : Int) (kn : List (Sh.T .int)) (p3 : Option Addr) (q3 : Nat) (p4 : Option Addr) (q4 : Nat) (sa sb sn : Int), r = .returned (.tuple #[.agg #[.int .i64 sk, .int .i64 nw, .slice p3 cl.length q3, .int .i64 ho, .int .i64 un, .slice p4 kn.length q4], .agg #[.int .i64 sa, .int .i64 sb, .int .i64 sn]]) ∧ (cl.length ≤ 12 ∧ kn.length ≤ 13) ∧ Lies w' shLeases [.int .i64 sk, .int .i64 nw, .slice p3 cl.length q3, .int .i64 ho, .int .i64 un, .slice p4 kn.length q4] (sk, nw, cl, ho, un, kn, ()) ∧ Below w.heap.size w w'

theorem own_lt {w : World} : ∀ {s : Sh} {cs : List Value} {x : s.T} {S : Nat → Prop}, Own w s cs x S → Own w s cs x (fun k => S k ∧ k < w.heap.size)
  | .int, cs, x, S, h => h
  | .str, cs, x, S, h => h
  | .bool, cs, x, S, h => h
  | .nil, cs, x, S, h => h
  | .pair a b, cs, x, S, h => by
    obtain ⟨c1, c2, S1, S2, e, h1, h2, h3, h4⟩ := h
    exact ⟨c1, c2, _, _, e, own_lt h1, own_lt h2, fun k q r => h3 k q.1 r.1, fun k q => q.elim (fun r => ⟨h4 k (Or.inl r.1), r.2⟩) (fun r => ⟨h4 k (Or.inr r.1), r.2⟩)⟩
  | .list e, cs, l, S, h => by
    rcases h with h | ⟨g, cap, B, e1, hc, hg, hSg, h3, h4, h5, hE⟩
    · exact Or.inl h
    · refine Or.inr ⟨g, cap, fun i k => B i k ∧ k < w.heap.size, e1, hc, hg, ⟨hSg, hg⟩, fun i hi k q => ⟨⟨(h3 i hi k q.1).1, q.2⟩, (h3 i hi k q.1).2⟩, fun i j hij hj k q r => h4 i j hij hj k q.1 r.1, h5, fun i hi => ?_⟩
      obtain ⟨ec, q1, q2, q3⟩ := hE i hi
      exact ⟨ec, q1, q2, own_lt q3⟩
theorem ds_step {w w0 W W' : World} {a : Option Addr} {n cap : Nat} {X : Nat → Int} {t t' b5 : Nat} {c1 c2 c3 : List Value} {y : Sh.T shLeases} (h : Drew (w.heap.size + 1 + 1) a n cap X t w0 W ∧ Bx W b5 c1 ∧ Bx W w.heap.size c2 ∧ Bx W (w.heap.size + 1) c3 ∧ Own W shLeases c1 y (fun k => (w.heap.size + 1 + 1) < k ∧ k ≠ b5)) (hd : Drew (w.heap.size + 1 + 1) a n cap X t' W W') (hz : (w.heap.size + 1 + 1) < b5) : Drew (w.heap.size + 1 + 1) a n cap X t' w0 W' ∧ Bx W' b5 c1 ∧ Bx W' w.heap.size c2 ∧ Bx W' (w.heap.size + 1) c3 ∧ Own W' shLeases c1 y (fun k => (w.heap.size + 1 + 1) < k ∧ k ≠ b5) :=
  ⟨h.1.trans hd, h.2.1.keepB (fun q => hd.2.2.2.2.2 _ q (by omega)) hd.2.2.2.2.1, h.2.2.1.keepB (fun q => hd.2.2.2.2.2 _ q (by omega)) hd.2.2.2.2.1, h.2.2.2.1.keepB (fun q => hd.2.2.2.2.2 _ q (by omega)) hd.2.2.2.2.1, h.2.2.2.2.keep hd.2.2.2.2.1 (fun k q s => hd.2.2.2.2.2 k q (by have := s.1; omega))⟩

set_option maxRecDepth 100000 in
set_option maxHeartbeats 4000000 in
theorem drawStepLease_any (a : Option Addr) (n cap : Nat) (X : Nat → Int) (w : World) (hn : n ≤ 9223372036854775807) (hs : Sl w a n 1 (byF X)) (hX : ∀ i, i < n → 0 ≤ X i ∧ X i ≤ 255) :
    Calls Try.prog 15 #[.slice a n cap] w (DslP w) := by
  obtain ⟨wA, hwA⟩ : ∃ x, x = (w.alloc (.cells #[.int .i64 0, .int .i64 0, .slice none 0 0, .int .i64 0, .int .i64 0, .slice none 0 0] 28)).alloc (.cells #[.int .i64 0, .int .i64 0, .int .i64 0] 34) := ⟨_, rfl⟩
  have hwz : wA.heap.size = w.heap.size + 1 + 1 := by rw [hwA]; simp
  have hbA : Below w.heap.size w wA := hwA ▸ ((Below.refl _ _).alloc (Nat.le_refl _) _).alloc (by simp) _
  obtain ⟨w0, hw0⟩ : ∃ x, x = wA.alloc (.cells #[.slice a n cap, .int .i64 0, .int .u64 0] 67) := ⟨_, rfl⟩
  have hb0 : Below wA.heap.size wA w0 := hw0 ▸ Go.Joins.below_alloc1 _ _
  have HC : Hid (Cur w0 (w.heap.size + 1 + 1) a n cap X 0 ∧ Bx w0 w.heap.size [.int .i64 0, .int .i64 0, .slice none 0 0, .int .i64 0, .int .i64 0, .slice none 0 0] ∧ Bx w0 (w.heap.size + 1) [.int .i64 0, .int .i64 0, .int .i64 0] ∧ Below w.heap.size w w0 ∧ w0.heap.size = w.heap.size + 1 + 1 + 1) := Hid.intro (by
    have hc := Cur.new (w := wA) (cap := cap) 67 (hs.below hbA (Nat.le_refl _)) hn hX
    rw [← hw0, hwz] at hc
    refine ⟨hc, (hwA ▸ (Bx.new w [_, _, _, _, _, _] _).alloc _ : Bx wA w.heap.size [.int .i64 0, .int .i64 0, .slice none 0 0, .int .i64 0, .int .i64 0, .slice none 0 0]).next hb0, (hwA ▸ Bx.newAt (by simp) : Bx wA (w.heap.size + 1) [.int .i64 0, .int .i64 0, .int .i64 0]).next hb0, below_next hbA hb0, ?_⟩
    rw [hw0]; simp [hwz])
  clear hs hX hbA hb0 hwz
  go_enter Try.func15, Try.ntmps15
  go_wp2_with fail
  rw [← hwA, ← hw0]
  clear hwA hw0
  refine (leases_any _ _ _ _ _ _ _ (by omega) HC.out.1).mono ?_
  rintro _ w1 ⟨sk, nw, cl, ho, un, kn, p3, q3, p4, q4, rfl, hl, hO, hd⟩
  obtain ⟨b5, hb5⟩ : ∃ y, y = w1.heap.size := ⟨_, rfl⟩
  obtain ⟨w2, hw2⟩ : ∃ x, x = w1.alloc (.cells #[.int .i64 sk, .int .i64 nw, .slice p3 cl.length q3, .int .i64 ho, .int .i64 un, .slice p4 kn.length q4] 28) := ⟨_, rfl⟩
  have HB5 : Hid ((w.heap.size + 1 + 1) < b5) := Hid.intro (by have h1 := hd.2.2.2.2.1; have h2 := HC.out.2.2.2.2; omega)
  have HQ : Hid (Drew (w.heap.size + 1 + 1) a n cap X (2020) w0 w2.drew ∧ Bx w2.drew b5 [.int .i64 sk, .int .i64 nw, .slice p3 cl.length q3, .int .i64 ho, .int .i64 un, .slice p4 kn.length q4] ∧ Bx w2.drew w.heap.size [.int .i64 0, .int .i64 0, .slice none 0 0, .int .i64 0, .int .i64 0, .slice none 0 0] ∧ Bx w2.drew (w.heap.size + 1) [.int .i64 0, .int .i64 0, .int .i64 0] ∧ Own w2.drew shLeases [.int .i64 sk, .int .i64 nw, .slice p3 cl.length q3, .int .i64 ho, .int .i64 un, .slice p4 kn.length q4] (sk, nw, cl, ho, un, kn, ()) (fun k => (w.heap.size + 1 + 1) < k ∧ k ≠ b5)) := Hid.intro (by
    have hb : Below w1.heap.size w1 w2.drew := below_next (hw2 ▸ Go.Joins.below_alloc1 _ _ : Below w1.heap.size w1 w2) (below_drew _)
    have h2 := HC.out.2.2.2.2
    refine ⟨⟨hd.1.next hb, hd.2.next hb⟩, hb5 ▸ (hw2 ▸ Bx.new w1 [_, _, _, _, _, _] _ : Bx w2 _ _).next (below_drew _), (HC.out.2.1.keepB (fun q => hd.2.2.2.2.2 _ q (by omega)) hd.2.2.2.2.1).next hb, (HC.out.2.2.1.keepB (fun q => hd.2.2.2.2.2 _ q (by omega)) hd.2.2.2.2.1).next hb, ?_⟩
    exact ((own_lt hO).next hb).mono (fun k q => ⟨by have := q.1; omega, by have := q.2; omega⟩))
  have HLN := Hid.intro hl
  have hl12 := hl.1
  have hl12' : (cl.length : Int) ≤ 12 := by omega
  clear hO hd hl
  go_upto_region 3 with fail
  rw [← hw2, ← hb5]
  clear hb5
  refine wp_region_noPanic ?_
  refine wp_region_held_drew (S := fun W => Bx W b5 [.int .i64 sk, .int .i64 nw, .slice p3 cl.length q3, .int .i64 ho, .int .i64 un, .slice p4 kn.length q4]) (by kernel_rfl) HQ.out.2.1 (fun hHeld => ?_)
  obtain ⟨X0, hX0⟩ : ∃ x, x = w2.drew := ⟨_, rfl⟩
  rw [← hX0] at HQ hHeld ⊢
  clear hX0 hw2
  refine take_v (v := ?_) 0 ⟨some 11, Op.load 28 (Operand.tmp 5), _, _, _, none⟩ rfl (fun _ _ _ h => h) ?_ hHeld ?_
  rotate_left
  · (intro W hSW; (have s0 := hSW.cell 0 rfl; have s1 := hSW.cell 1 rfl; have s2 := hSW.cell 2 rfl; have s3 := hSW.cell 3 rfl; have s4 := hSW.cell 4 rfl; have s5 := hSW.cell 5 rfl; have sz := hSW.2); go_simp <;> (try with_reducible rfl))
  refine take_v (v := ?_) 1 ⟨some 12, Op.move (Operand.tmp 4), _, _, _, none⟩ rfl (fun _ _ _ h => h) ?_ hHeld ?_
  rotate_left
  · (intro W _; go_simp <;> (try with_reducible rfl))
  refine take_v (v := ?_) 3 ⟨some 14, Op.move (Operand.tmp 4), _, _, _, none⟩ rfl (fun _ _ _ h => h) ?_ hHeld ?_
  rotate_left
  · (intro W _; go_simp <;> (try with_reducible rfl))
  refine take_v (v := ?_) 4 ⟨some 15, Op.fieldAddr 28 (Operand.tmp 5) 2, _, _, _, none⟩ rfl (fun _ _ _ h => h) ?_ hHeld ?_
  rotate_left
  · (intro W _; go_simp <;> (try with_reducible rfl))
  refine take_v (v := ?_) 5 ⟨some 16, Op.load 26 (Operand.tmp 15), _, _, _, none⟩ rfl (fun _ _ _ h => h) ?_ hHeld ?_
  rotate_left
  · (intro W hSW; (have s0 := hSW.cell 0 rfl; have s1 := hSW.cell 1 rfl; have s2 := hSW.cell 2 rfl; have s3 := hSW.cell 3 rfl; have s4 := hSW.cell 4 rfl; have s5 := hSW.cell 5 rfl; have sz := hSW.2); go_simp <;> (try with_reducible rfl))
  refine take_v (v := ?_) 6 ⟨some 17, Op.call { callee := Callee.builtin Builtin.len, args := #[Operand.tmp 16], argTypes := #[26] }, _, _, _, none⟩ rfl (fun _ _ _ h => h) ?_ hHeld ?_
  rotate_left
  · (intro W _; go_simp <;> (try with_reducible rfl))
  refine take_v (v := ?_) 7 ⟨some 18, Op.binOp BinOp.add 3 (Operand.tmp 17) (Operand.const (Value.int IntKind.i64 2)) 3, _, _, _, none⟩ rfl (fun _ _ _ h => h) ?_ hHeld ?_
  rotate_left
  · (intro W _; go_simp <;> (try with_reducible rfl))
  refine take_v (v := ?_) 10 ⟨some 21, Op.move (Operand.tmp 4), _, _, _, none⟩ rfl (fun _ _ _ h => h) ?_ hHeld ?_
  rotate_left
  · (intro W _; go_simp <;> (try with_reducible rfl))
  refine ready_call 2 ⟨some 13, Op.call { callee := Callee.value (Operand.func 39), args := #[Operand.tmp 12, Operand.const (Value.int IntKind.i64 6)], argTypes := #[64, 3] }, _, _, _, none⟩ (by kernel_rfl) rfl (by kernel_rfl) (fun KC hK => ?_)
  go_wp2_with fail
  refine (pick_any _ _ _ _ _ _ _ _ (by omega) (by omega) HQ.out.1.1).mono ?_
  rintro _ W1 ⟨y1, hy1, rfl, hd⟩
  have HQ := (show Hid (Drew (w.heap.size + 1 + 1) a n cap X (2020 + 2) w0 W1 ∧ Bx W1 b5 [.int .i64 sk, .int .i64 nw, .slice p3 cl.length q3, .int .i64 ho, .int .i64 un, .slice p4 kn.length q4] ∧ Bx W1 w.heap.size [.int .i64 0, .int .i64 0, .slice none 0 0, .int .i64 0, .int .i64 0, .slice none 0 0] ∧ Bx W1 (w.heap.size + 1) [.int .i64 0, .int .i64 0, .int .i64 0] ∧ Own W1 shLeases [.int .i64 sk, .int .i64 nw, .slice p3 cl.length q3, .int .i64 ho, .int .i64 un, .slice p4 kn.length q4] (sk, nw, cl, ho, un, kn, ()) (fun k => (w.heap.size + 1 + 1) < k ∧ k ≠ b5)) from ds_step HQ.out hd HB5.out)
  clear hd
  refine hK.out _ _ HQ.out.2.1 (fun hHeld => ?_)
  clear hK KC
  refine ready_call 8 ⟨some 19, Op.call { callee := Callee.value (Operand.func 39), args := #[Operand.tmp 14, Operand.tmp 18], argTypes := #[64, 3] }, _, _, _, none⟩ (by kernel_rfl) rfl (by kernel_rfl) (fun KC hK => ?_)
  go_wp2_with fail
  refine (pick_any _ _ _ _ _ _ _ _ (by omega) (by omega) HQ.out.1.1).mono ?_
  rintro _ W2 ⟨y2, hy2, rfl, hd⟩
  have HQ := (show Hid (Drew (w.heap.size + 1 + 1) a n cap X (2020 + 2 + 2) w0 W2 ∧ Bx W2 b5 [.int .i64 sk, .int .i64 nw, .slice p3 cl.length q3, .int .i64 ho, .int .i64 un, .slice p4 kn.length q4] ∧ Bx W2 w.heap.size [.int .i64 0, .int .i64 0, .slice none 0 0, .int .i64 0, .int .i64 0, .slice none 0 0] ∧ Bx W2 (w.heap.size + 1) [.int .i64 0, .int .i64 0, .int .i64 0] ∧ Own W2 shLeases [.int .i64 sk, .int .i64 nw, .slice p3 cl.length q3, .int .i64 ho, .int .i64 un, .slice p4 kn.length q4] (sk, nw, cl, ho, un, kn, ()) (fun k => (w.heap.size + 1 + 1) < k ∧ k ≠ b5)) from ds_step HQ.out hd HB5.out)
  clear hd
  refine hK.out _ _ HQ.out.2.1 (fun hHeld => ?_)
  clear hK KC
  refine take_v (v := ?_) 9 ⟨some 20, Op.binOp BinOp.sub 3 (Operand.tmp 19) (Operand.const (Value.int IntKind.i64 1)) 3, _, _, _, none⟩ rfl (fun _ _ _ h => h) ?_ hHeld ?_
  rotate_left
  · (intro W _; go_simp <;> (try with_reducible rfl))
  refine ready_call 11 ⟨some 22, Op.call { callee := Callee.value (Operand.func 39), args := #[Operand.tmp 21, Operand.const (Value.int IntKind.i64 30)], argTypes := #[64, 3] }, _, _, _, none⟩ (by kernel_rfl) rfl (by kernel_rfl) (fun KC hK => ?_)
  go_wp2_with fail
  refine (pick_any _ _ _ _ _ _ _ _ (by omega) (by omega) HQ.out.1.1).mono ?_
  rintro _ W3 ⟨y3, hy3, rfl, hd⟩
  have HQ := (show Hid (Drew (w.heap.size + 1 + 1) a n cap X (2020 + 2 + 2 + 2) w0 W3 ∧ Bx W3 b5 [.int .i64 sk, .int .i64 nw, .slice p3 cl.length q3, .int .i64 ho, .int .i64 un, .slice p4 kn.length q4] ∧ Bx W3 w.heap.size [.int .i64 0, .int .i64 0, .slice none 0 0, .int .i64 0, .int .i64 0, .slice none 0 0] ∧ Bx W3 (w.heap.size + 1) [.int .i64 0, .int .i64 0, .int .i64 0] ∧ Own W3 shLeases [.int .i64 sk, .int .i64 nw, .slice p3 cl.length q3, .int .i64 ho, .int .i64 un, .slice p4 kn.length q4] (sk, nw, cl, ho, un, kn, ()) (fun k => (w.heap.size + 1 + 1) < k ∧ k ≠ b5)) from ds_step HQ.out hd HB5.out)
  clear hd
  refine hK.out _ _ HQ.out.2.1 (fun hHeld => ?_)
  clear hK KC
  refine take_v (v := ?_) 12 ⟨some 23, Op.binOp BinOp.sub 3 (Operand.tmp 22) (Operand.const (Value.int IntKind.i64 5)) 3, _, _, _, none⟩ rfl (fun _ _ _ h => h) ?_ hHeld ?_
  rotate_left
  · (intro W _; go_simp <;> (try with_reducible rfl))
  refine take_v (v := ?_) 13 ⟨some 24, Op.build 34 #[(0, Operand.tmp 13), (1, Operand.tmp 20), (2, Operand.tmp 23)], _, _, _, none⟩ rfl (fun _ _ _ h => h) ?_ hHeld ?_
  rotate_left
  · (intro W _; go_simp <;> (try with_reducible rfl))
  refine ready_call 14 ⟨none, Op.store 28 (Operand.tmp 2) (Operand.tmp 11), _, _, _, none⟩ (by kernel_rfl) rfl (by kernel_rfl) (fun KC hK => ?_)
  have r0 := HQ.out.2.2.1.cell 0 rfl
  have r1 := HQ.out.2.2.1.cell 1 rfl
  have r2 := HQ.out.2.2.1.cell 2 rfl
  have r3 := HQ.out.2.2.1.cell 3 rfl
  have r4 := HQ.out.2.2.1.cell 4 rfl
  have r5 := HQ.out.2.2.1.cell 5 rfl
  have rz := HQ.out.2.2.1.2
  have rf0 := HQ.out.2.2.1.frz 0 (by simp)
  have rf1 := HQ.out.2.2.1.frz 1 (by simp)
  have rf2 := HQ.out.2.2.1.frz 2 (by simp)
  have rf3 := HQ.out.2.2.1.frz 3 (by simp)
  have rf4 := HQ.out.2.2.1.frz 4 (by simp)
  have rf5 := HQ.out.2.2.1.frz 5 (by simp)
  have hb5 := HB5.out
  go_wp2_with fail
  have HT := Hid.intro (show TurnS (fun k => k = w.heap.size) W3 ((((((W3.setCell ⟨w.heap.size, 0, none⟩ (.int .i64 sk)).setCell ⟨w.heap.size, 1, none⟩ (.int .i64 nw)).setCell ⟨w.heap.size, 2, none⟩ (.slice p3 cl.length q3)).setCell ⟨w.heap.size, 3, none⟩ (.int .i64 ho)).setCell ⟨w.heap.size, 4, none⟩ (.int .i64 un)).setCell ⟨w.heap.size, 5, none⟩ (.slice p4 kn.length q4)) from set6 W3 w.heap.size _ _ _ _ _ _)
  refine hK.out _ _ (hHeld.turnS HT.out (by omega)) (fun hHeld => ?_)
  clear hK KC
  refine ready_call 15 ⟨none, Op.store 34 (Operand.tmp 3) (Operand.tmp 24), _, _, _, none⟩ (by kernel_rfl) rfl (by kernel_rfl) (fun KC hK => ?_)
  have t0 := (HQ.out.2.2.2.1.turnS HT.out (by omega)).cell 0 rfl
  have t1 := (HQ.out.2.2.2.1.turnS HT.out (by omega)).cell 1 rfl
  have t2 := (HQ.out.2.2.2.1.turnS HT.out (by omega)).cell 2 rfl
  have tz := (HQ.out.2.2.2.1.turnS HT.out (by omega)).2
  have tf0 := (HQ.out.2.2.2.1.turnS HT.out (by omega)).frz 0 (by simp)
  have tf1 := (HQ.out.2.2.2.1.turnS HT.out (by omega)).frz 1 (by simp)
  have tf2 := (HQ.out.2.2.2.1.turnS HT.out (by omega)).frz 2 (by simp)
  go_wp2_with fail
  refine hK.out _ _ (((hHeld.other (by omega)).other (by omega)).other (by omega)) (fun hHeld => ?_)
  clear hK KC
  refine wpAnyH_done (by kernel_rfl) ?_ _
  refine NoPanic.normal ?_
  clear hHeld
  have HP : Hid (DslP w (.returned (.tuple #[.agg #[.int .i64 sk, .int .i64 nw, .slice p3 cl.length q3, .int .i64 ho, .int .i64 un, .slice p4 kn.length q4], .agg #[.int .i64 y1, .int .i64 (y2 - 1), .int .i64 (y3 - 5)]])) (((((((((W3.setCell ⟨w.heap.size, 0, none⟩ (.int .i64 sk)).setCell ⟨w.heap.size, 1, none⟩ (.int .i64 nw)).setCell ⟨w.heap.size, 2, none⟩ (.slice p3 cl.length q3)).setCell ⟨w.heap.size, 3, none⟩ (.int .i64 ho)).setCell ⟨w.heap.size, 4, none⟩ (.int .i64 un)).setCell ⟨w.heap.size, 5, none⟩ (.slice p4 kn.length q4)).setCell ⟨w.heap.size + 1, 0, none⟩ (.int .i64 y1)).setCell ⟨w.heap.size + 1, 1, none⟩ (.int .i64 (y2 - 1))).setCell ⟨w.heap.size + 1, 2, none⟩ (.int .i64 (y3 - 5)))) := Hid.intro ⟨sk, nw, cl, ho, un, kn, p3, q3, p4, q4, y1, y2 - 1, y3 - 5, rfl, HLN.out, ((((HQ.out.2.2.2.2.turn HT.out (fun k q e => by have := q.1; have e : k = w.heap.size := e; omega)).set (p := ⟨w.heap.size + 1, 0, none⟩) (fun q => by have : (w.heap.size + 1 + 1) < w.heap.size + 1 := q.1; omega) _).set (p := ⟨w.heap.size + 1, 1, none⟩) (fun q => by have : (w.heap.size + 1 + 1) < w.heap.size + 1 := q.1; omega) _).set (p := ⟨w.heap.size + 1, 2, none⟩) (fun q => by have : (w.heap.size + 1 + 1) < w.heap.size + 1 := q.1; omega) _).lies, ((((drew_below HC.out.2.2.2.1 HQ.out.1 (by omega)).trans (HT.out.below (fun k e => by have e : k = w.heap.size := e; omega) (drew_below HC.out.2.2.2.1 HQ.out.1 (by omega)).size)).setCell (p := ⟨w.heap.size + 1, 0, none⟩) (by simp) _).setCell (p := ⟨w.heap.size + 1, 1, none⟩) (by simp) _).setCell (p := ⟨w.heap.size + 1, 2, none⟩) (by simp) _⟩
  go_wp2_with fail
  exact bodyPost_ret (v := .tuple #[.agg #[.int .i64 sk, .int .i64 nw, .slice p3 cl.length q3, .int .i64 ho, .int .i64 un, .slice p4 kn.length q4], .agg #[.int .i64 y1, .int .i64 (y2 - 1), .int .i64 (y3 - 5)]]) (by simp [results, Try.results15, go_sem, *]) rfl HP.out
end Go.Proofs.Ytidalpgkljafdaa
