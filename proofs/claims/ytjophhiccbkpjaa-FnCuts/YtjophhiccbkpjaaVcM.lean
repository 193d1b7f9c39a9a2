/- The memory of vectorsOf: six vectors in a block, a map from messages to vectors, a row of vectors. -/
import Derived.Test.YtjophhiccbkpjaaVc
import Derived.Test.YtjophhiccbkpjaaLamI
import Derived.Test.YtjophhiccbkpjaaTurn
namespace Go.Proofs.Ytjophhiccbkpjaa
open Go.RowKit Go.Maps
set_option linter.unusedVariables false

/-- Block g holds six vectors and may be written. -/
def VArr (w : World) (g : Nat) (f : Nat → Nat → Int) : Prop := (∀ q, q < 6 → ∀ p, p < 6 → w.cell? ⟨g, q * 6 + p, none⟩ = some (.int .i64 (f q p)) ∧ w.frozen? ⟨g, q * 6 + p, none⟩ = false) ∧ g < w.heap.size
theorem VArr.below {B : Nat} {w w' : World} {g : Nat} {f : Nat → Nat → Int} (h : VArr w g f) (hb : Below B w w') (hg : g < B) : VArr w' g f :=
  ⟨fun q hq p hp => ⟨(hb.cell (p := ⟨g, q * 6 + p, none⟩) hg).trans (h.1 q hq p hp).1, (hb.frozen (p := ⟨g, q * 6 + p, none⟩) hg).trans (h.1 q hq p hp).2⟩, Nat.lt_of_lt_of_le h.2 hb.size⟩
theorem VArr.grown {w w' : World} {g : Nat} {f : Nat → Nat → Int} {row : Option Nat} (h : VArr w g f) (hg : w.grownBy w' row) (hne : some g ≠ row) : VArr w' g f := by
  have e := hg.block g h.2 hne
  exact ⟨fun q hq p hp => ⟨(World.cell?_of_block (a := ⟨g, q * 6 + p, none⟩) e).trans (h.1 q hq p hp).1, (World.frozen?_of_block (a := ⟨g, q * 6 + p, none⟩) e).trans (h.1 q hq p hp).2⟩, Nat.lt_of_lt_of_le h.2 hg.size⟩
theorem VArr.congr {w : World} {g : Nat} {f f' : Nat → Nat → Int} (h : VArr w g f) (e : ∀ q, q < 6 → ∀ p, p < 6 → f q p = f' q p) : VArr w g f' :=
  ⟨fun q hq p hp => ⟨by rw [← e q hq p hp]; exact (h.1 q hq p hp).1, (h.1 q hq p hp).2⟩, h.2⟩
theorem VArr.set1 {w : World} {g q t : Nat} {f : Nat → Nat → Int} (h : VArr w g f) (hq : q < 6) (ht : t < 6) (v : Int) : VArr (w.setCell ⟨g, q * 6 + t, none⟩ (.int .i64 v)) g (fun a b => if a = q ∧ b = t then v else f a b) := by
  refine ⟨fun a ha b hb => ⟨?_, by simpa using (h.1 a ha b hb).2⟩, by simpa using h.2⟩
  by_cases e : a = q ∧ b = t
  · obtain ⟨rfl, rfl⟩ := e
    simp only [and_self, if_true]; exact World.cell?_setCell_same _ _ _ (h.1 a ha b hb).1
  · rw [World.cell?_setCell_other _ _ _ _ (addr_ne (by omega))]; simp only [if_neg e]; exact (h.1 a ha b hb).1
/-- Six stores, one behind the other. -/
def set6 (w : World) (g o : Nat) (u : Nat → Int) : World := (((((w.setCell ⟨g, o, none⟩ (.int .i64 (u 0))).setCell ⟨g, o + 1, none⟩ (.int .i64 (u 1))).setCell ⟨g, o + 2, none⟩ (.int .i64 (u 2))).setCell ⟨g, o + 3, none⟩ (.int .i64 (u 3))).setCell ⟨g, o + 4, none⟩ (.int .i64 (u 4))).setCell ⟨g, o + 5, none⟩ (.int .i64 (u 5))
theorem VArr.put6 {w : World} {g q : Nat} {f : Nat → Nat → Int} (h : VArr w g f) (hq : q < 6) (u : Nat → Int) : VArr (set6 w g (q * 6) u) g (fun a b => if a = q then u b else f a b) := by
  have := (((((h.set1 hq (t := 0) (by omega) (u 0)).set1 hq (t := 1) (by omega) (u 1)).set1 hq (t := 2) (by omega) (u 2)).set1 hq (t := 3) (by omega) (u 3)).set1 hq (t := 4) (by omega) (u 4)).set1 hq (t := 5) (by omega) (u 5)
  refine VArr.congr this (fun a ha b hb => ?_)
  by_cases e : a = q
  · subst e
    simp only [true_and, if_true]
    revert hb
    exact upto6 (P := fun b => (if b = 5 then u 5 else if b = 4 then u 4 else if b = 3 then u 3 else if b = 2 then u 2 else if b = 1 then u 1 else if b = 0 then u 0 else f a b) = u b) rfl rfl rfl rfl rfl rfl b
  · simp [e]
theorem set6_below {B g o : Nat} {a w : World} {u : Nat → Int} (h : Below B a w) (hg : B ≤ g) : Below B a (set6 w g o u) :=
  (((((h.setCell (p := ⟨g, o, none⟩) hg _).setCell (p := ⟨g, o + 1, none⟩) hg _).setCell (p := ⟨g, o + 2, none⟩) hg _).setCell (p := ⟨g, o + 3, none⟩) hg _).setCell (p := ⟨g, o + 4, none⟩) hg _).setCell (p := ⟨g, o + 5, none⟩) hg _
theorem set6_size (w : World) (g o : Nat) (u : Nat → Int) : (set6 w g o u).heap.size = w.heap.size := by simp [set6]
theorem Vec.put6 {w : World} {g : Nat} {x : Nat → Int} (h : Vec w g x) (u : Nat → Int) : Vec (set6 w g 0 u) g u := by
  have := (((((h.set (k := 0) (by omega) (u 0)).set (k := 1) (by omega) (u 1)).set (k := 2) (by omega) (u 2)).set (k := 3) (by omega) (u 3)).set (k := 4) (by omega) (u 4)).set (k := 5) (by omega) (u 5)
  refine Vec.congr this (fun b hb => ?_)
  revert hb
  exact upto6 (P := fun b => (if b = 5 then u 5 else if b = 4 then u 4 else if b = 3 then u 3 else if b = 2 then u 2 else if b = 1 then u 1 else if b = 0 then u 0 else x b) = u b) rfl rfl rfl rfl rfl rfl b
theorem Vec.other6 {w : World} {g g' o : Nat} {x u : Nat → Int} (h : Vec w g x) (hg : g ≠ g') : Vec (set6 w g' o u) g x :=
  (((((h.setOther hg).setOther hg).setOther hg).setOther hg).setOther hg).setOther hg
theorem row6 {w : World} {base g o : Nat} {e : TypeId} {size : Nat} {v : Value} {n : Nat} {xs : List Value} {u : Nat → Int} (h : w.ownsRow base e size v n xs) (hg : g < base) : (set6 w g o u).ownsRow base e size v n xs := by
  unfold set6
  exact ownsRow_setCell_below (ownsRow_setCell_below (ownsRow_setCell_below (ownsRow_setCell_below (ownsRow_setCell_below (ownsRow_setCell_below h (a := ⟨g, o, none⟩) hg _) (a := ⟨g, o + 1, none⟩) hg _) (a := ⟨g, o + 2, none⟩) hg _) (a := ⟨g, o + 3, none⟩) hg _) (a := ⟨g, o + 4, none⟩) hg _) (a := ⟨g, o + 5, none⟩) hg _

/-- What an element of the map reads as: itself. -/
def selfR (v : Value) : Option (DataW Value × List MemPlace) := some (.held v, [])
/-- Block b is a map of at most n entries that has the vector f m at every message m. -/
def VMap (w : World) (b n : Nat) (f : Int → Nat → Int) : Prop :=
  ∃ D : DataW Value, w.ownsMap Try.prog 3 selfR b n D ∧ ∀ m, D.atKey (.int .i64 m) (.held (vec fun _ => 0)) = .held (vec (f m))
theorem VMap.below {B : Nat} {w w' : World} {b n : Nat} {f : Int → Nat → Int} (h : VMap w b n f) (hb : Below B w w') (hB : b < B) : VMap w' b n f := by
  obtain ⟨D, ⟨es, clock, hh, r⟩, hf⟩ := h
  exact ⟨D, ⟨es, clock, by rw [hb.block b hB]; exact hh, r⟩, hf⟩
theorem VMap.made (w : World) : VMap (w.alloc (.map #[] 0)) w.heap.size 0 (fun _ _ => 0) := ⟨.map [], World.ownsMap_made _ _ _ _, fun m => rfl⟩
theorem VMap.lt {w : World} {b n : Nat} {f : Int → Nat → Int} (h : VMap w b n f) : b < w.heap.size := by obtain ⟨D, h, _⟩ := h; exact h.lt
theorem VMap.grown {w w' : World} {b n : Nat} {f : Int → Nat → Int} {row : Option Nat} (h : VMap w b n f) (hg : w.grownBy w' row) (hne : some b ≠ row) : VMap w' b n f := by
  obtain ⟨D, ho, hf⟩ := h
  exact ⟨D, ho.kept hg hne, hf⟩
theorem VMap.setCell {w : World} {b n g o : Nat} {f : Int → Nat → Int} {v : Value} (h : VMap w b n f) (hne : b ≠ g) : VMap (w.setCell ⟨g, o, none⟩ v) b n f := by
  obtain ⟨D, ho, hf⟩ := h
  exact ⟨D, World.ownsMap.setCell ho (by simpa using hne) _, hf⟩
theorem VMap.other6 {w : World} {b n g o : Nat} {f : Int → Nat → Int} {u : Nat → Int} (h : VMap w b n f) (hne : b ≠ g) : VMap (set6 w g o u) b n f :=
  (((((h.setCell hne).setCell hne).setCell hne).setCell hne).setCell hne).setCell hne
theorem VMap.congr {w : World} {b n : Nat} {f f' : Int → Nat → Int} (h : VMap w b n f) (e : ∀ m p, p < 6 → f m p = f' m p) : VMap w b n f' := by
  obtain ⟨D, ho, hf⟩ := h
  exact ⟨D, ho, fun m => by rw [hf, vec_congr (e m)]⟩
theorem VMap.mono {w : World} {b n n' : Nat} {f : Int → Nat → Int} (h : VMap w b n f) (hn : n ≤ n') : VMap w b n' f := by
  obtain ⟨D, ho, hf⟩ := h
  exact ⟨D, ho.mono hn, hf⟩
theorem VMap.put {w : World} {b n : Nat} {f g : Int → Nat → Int} {D : DataW Value} {m : Int} {u : Nat → Int} (hf : ∀ m, D.atKey (.int .i64 m) (.held (vec fun _ => 0)) = .held (vec (f m))) (hD : IsMap D)
    (h : w.ownsMap Try.prog 3 selfR b n (D.put (.int .i64 m) (.held (vec u)))) (hg : ∀ x p, g x p = if x = m then u p else f x p) : VMap w b n g := by
  refine ⟨_, h, fun x => ?_⟩
  by_cases e : x = m
  · subst e; rw [atKey_put_same hD (by trivial)]
    exact congrArg _ (vec_congr fun p _ => by rw [hg]; simp)
  · rw [atKey_put_other (by intro q; injection q; contradiction), hf]
    exact congrArg _ (vec_congr fun p _ => by rw [hg, if_neg e])
theorem zeroV (w : World) : (zeroValue 73).run Try.prog w = .ok (vec fun _ => 0) w := by kernel_rfl
theorem VMap.look {w : World} {b n : Nat} {f : Int → Nat → Int} (h : VMap w b n f) {m : Int} (hm : -9223372036854775808 ≤ m ∧ m ≤ 9223372036854775807) : (Instr.lookup 100 (.map (some b)) (.int .i64 m) false).run Try.prog w = .ok (vec (f m)) w := by
  obtain ⟨D, ho, hf⟩ := h
  obtain ⟨v, ps, hr, hv⟩ := ho.lookup keyI Try.underlying100 (zeroV w) (zd := .held (vec fun _ => 0)) (zp := []) rfl (keyOf_int_mk Try.underlying3 (WalkArith.wf_i64 (by omega)))
  rw [hf] at hv
  simp only [selfR, Option.some.injEq, Prod.mk.injEq, DataW.held.injEq] at hv
  rw [hr, hv.1]

/-- The vectors of the first events, cell by cell. -/
def vecF (K P M : Nat → Int) (i p : Nat) : Value := .int .i64 (vc K P M (i + 1) p)
def lastV (K P M : Nat → Int) (k q p : Nat) : Int := vc K P M (lastB (fun j => P j == (q : Int)) k) p
def sentV (K P M : Nat → Int) (k : Nat) (m : Int) (p : Nat) : Int := vc K P M (lastB (fun j => K j == 2 && M j == m) k) p
theorem lastV_own {K P M : Nat → Int} {k q : Nat} (h : P k = (q : Int)) (p : Nat) : lastV K P M k q p = vc K P M (own P k) p := by simp [lastV, own, h]
theorem lastV_step {K P M : Nat → Int} {k q : Nat} (h : P k = (q : Int)) (i p : Nat) : (if i = q then vc K P M (k + 1) p else lastV K P M k i p) = lastV K P M (k + 1) i p := by
  by_cases e : i = q
  · subst e; simp [lastV, lastB, h]
  · have : (P k == (i : Int)) = false := by simp; omega
    simp [lastV, lastB, e, this]
theorem sentV_take {K P M : Nat → Int} {k : Nat} (h : K k = 3) (p : Nat) : sentV K P M k (M k) p = vc K P M (snt K M k) p := by simp [sentV, snt, h]
theorem sentV_put {K P M : Nat → Int} {k : Nat} (h : K k = 2) (m : Int) (p : Nat) : sentV K P M (k + 1) m p = if m = M k then vc K P M (k + 1) p else sentV K P M k m p := by
  by_cases e : m = M k
  · subst e; simp [sentV, lastB, h]
  · have : (M k == m) = false := by simp; exact fun q => e q.symm
    simp [sentV, lastB, e, this]
theorem sentV_keep {K P M : Nat → Int} {k : Nat} (h : K k ≠ 2) (m : Int) (p : Nat) : sentV K P M (k + 1) m p = sentV K P M k m p := by
  have : (K k == 2) = false := by simpa using h
  simp [sentV, lastB, this]
theorem vc_take {K P M : Nat → Int} {k q : Nat} (hp : P k = (q : Int)) (h : K k = 3) (p : Nat) : vc K P M (k + 1) p = max (lastV K P M k q p) (sentV K P M k (M k) p) + (if p = q then 1 else 0) := by
  rw [vc_succ, lastV_own hp, sentV_take h, hp]
  congr 1
  by_cases e : p = q
  · subst e; simp
  · have : ¬ ((q : Int) = (p : Int)) := by omega
    simp [e, this]
theorem vc_else {K P M : Nat → Int} {k q : Nat} (hp : P k = (q : Int)) (h : K k ≠ 3) (p : Nat) : vc K P M (k + 1) p = lastV K P M k q p + (if p = q then 1 else 0) := by
  have hs : snt K M k = 0 := by simp [snt, h]
  have hb := (vc_bd K P M (own P k) p).1
  rw [vc_succ, lastV_own hp, hs, vc_zero, hp, show max (vc K P M (own P k) p) 0 = vc K P M (own P k) p by omega]
  congr 1
  by_cases e : p = q
  · subst e; simp
  · have : ¬ ((q : Int) = (p : Int)) := by omega
    simp [e, this]
/-- What stands behind the first k events. -/
def VecS (K P M : Nat → Int) (B : World) (wr : World) (g k : Nat) (v : Value) : Prop :=
  VArr wr g (lastV K P M k) ∧ VMap wr (g + 1) k (sentV K P M k) ∧ wr.ownsRow (g + 2) 73 6 v k (cellsL (vecF K P M) 6 k) ∧ Below B.heap.size B wr
theorem VecS.next {K P M : Nat → Int} {B wr w' : World} {g k : Nat} {v : Value} (h : VecS K P M B wr g k v) (hb : Below wr.heap.size wr w') : VecS K P M B w' g k v :=
  ⟨h.1.below hb h.1.2, h.2.1.below hb h.2.1.lt, own_keep h.2.2.1 hb, h.2.2.2.trans (hb.mono h.2.2.2.size)⟩
theorem info_vec : (Try.prog.info? 73).map (fun i => (i.zero, i.size, i.bytes)) = some (some (.agg #[.int .i64 0, .int .i64 0, .int .i64 0, .int .i64 0, .int .i64 0, .int .i64 0]), 6, 48) := by kernel_rfl
end Go.Proofs.Ytjophhiccbkpjaa
