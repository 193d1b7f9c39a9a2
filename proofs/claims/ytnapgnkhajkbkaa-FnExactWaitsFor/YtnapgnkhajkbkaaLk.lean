/- Locks: what a list of them is in memory; the contracts of the law's own functions toLock, szLock, eqLock. -/
import Derived.Test.YtnapgnkhajkbkaaHd
import Derived.Test.YtnapgnkhajkbkaaBx
namespace Go.Proofs.Ytnapgnkhajkbkaa
open Go.RowKit
set_option linter.unusedVariables false

/-- A list of holds: how many, of which txn and mode. -/
structure HL where
  n : Nat
  t : Nat → Int
  m : Nat → Int
structure LkV where
  key : ByteArray
  h : HL
  w : HL
/-- Where a lock's two lists lie. -/
structure LkA where
  ha : Option Addr
  hc : Nat
  wa : Option Addr
  wc : Nat
def lkF (V : Nat → LkV) (A : Nat → LkA) (i j : Nat) : Value := if j = 0 then .string (V i).key else if j = 1 then .slice (A i).ha (V i).h.n (A i).hc else .slice (A i).wa (V i).w.n (A i).wc
def HdAt (w : World) (A : LkA) (V : LkV) : Prop := Sl w A.ha V.h.n 2 (hdF V.h.t V.h.m) ∧ Sl w A.wa V.w.n 2 (hdF V.w.t V.w.m) ∧ V.h.n ≤ A.hc ∧ V.w.n ≤ A.wc
theorem HdAt.next {w w' : World} {A : LkA} {V : LkV} (h : HdAt w A V) (hb : Below w.heap.size w w') : HdAt w' A V := ⟨h.1.kept hb, h.2.1.kept hb, h.2.2⟩
/-- A slice of n locks. -/
def LkS (w : World) (a : Option Addr) (n : Nat) (V : Nat → LkV) (A : Nat → LkA) : Prop := Sl w a n 3 (lkF V A) ∧ ∀ i, i < n → HdAt w (A i) (V i)
theorem LkS.next {w w' : World} {a : Option Addr} {n : Nat} {V : Nat → LkV} {A : Nat → LkA} (h : LkS w a n V A) (hb : Below w.heap.size w w') : LkS w' a n V A := ⟨h.1.kept hb, fun i hi => (h.2 i hi).next hb⟩
theorem LkS.below {B : Nat} {w w' : World} {a : Option Addr} {n : Nat} {V : Nat → LkV} {A : Nat → LkA} (h : LkS w a n V A) (hb : Below B w w') (hB : w.heap.size ≤ B) : LkS w' a n V A :=
  ⟨h.1.below hb hB, fun i hi => ⟨(h.2 i hi).1.below hb hB, (h.2 i hi).2.1.below hb hB, (h.2 i hi).2.2⟩⟩
def LkLen (V : LkV) : Prop := V.key.size ≤ maxLen ∧ V.h.n ≤ maxLen ∧ V.w.n ≤ maxLen
def LkOk (V : LkV) : Prop := V.key.size ≤ 1048576 ∧ V.h.n ≤ 1048576 ∧ V.w.n ≤ 1048576
theorem lk_cells {w : World} {b off n k : Nat} {V : Nat → LkV} {A : Nat → LkA} (h : Elems w b off n 3 (lkF V A)) (hk : k < n) :
    w.cell? ⟨b, off + k * 3, none⟩ = some (.string (V k).key) ∧ w.cell? ⟨b, off + k * 3 + 1, none⟩ = some (.slice (A k).ha (V k).h.n (A k).hc) ∧ w.cell? ⟨b, off + k * 3 + 2, none⟩ = some (.slice (A k).wa (V k).w.n (A k).wc) :=
  ⟨h k hk 0 (by omega), h k hk 1 (by omega), h k hk 2 (by omega)⟩
theorem room3 {w : World} {g n k : Nat} (h : Room w g (n * 3)) (hk : k < n) :
    ∃ x y z, w.cell? ⟨g, k * 3, none⟩ = some x ∧ w.cell? ⟨g, k * 3 + 1, none⟩ = some y ∧ w.cell? ⟨g, k * 3 + 2, none⟩ = some z ∧
      w.frozen? ⟨g, k * 3, none⟩ = false ∧ w.frozen? ⟨g, k * 3 + 1, none⟩ = false ∧ w.frozen? ⟨g, k * 3 + 2, none⟩ = false := by
  obtain ⟨⟨x, hx⟩, fx⟩ := h (k * 3) (by omega)
  obtain ⟨⟨y, hy⟩, fy⟩ := h (k * 3 + 1) (by omega)
  obtain ⟨⟨z, hz⟩, fz⟩ := h (k * 3 + 2) (by omega)
  exact ⟨x, y, z, hx, hy, hz, fx, fy, fz⟩
theorem info_lock : (Try.prog.info? 48).map (fun i => (i.zero, i.size, i.bytes)) = some (some (.agg #[.string ⟨#[]⟩, .slice none 0 0, .slice none 0 0]), 3, 64) := by kernel_rfl

/-- A new list of holds in block g. -/
def HdNew (w : World) (g n : Nat) (T M : Nat → Int) : Prop := Elems w g 0 n 2 (hdF T M) ∧ Room w g (n * 2) ∧ g < w.heap.size
theorem HdNew.next {w w' : World} {g n : Nat} {T M : Nat → Int} (h : HdNew w g n T M) (hb : Below w.heap.size w w') : HdNew w' g n T M := ⟨h.1.below hb h.2.2, h.2.1.below hb h.2.2, Nat.lt_of_lt_of_le h.2.2 hb.size⟩
theorem HdNew.sl {w : World} {g n : Nat} {T M : Nat → Int} (h : HdNew w g n T M) : Sl w (some ⟨g, 0, none⟩) n 2 (hdF T M) := Or.inr ⟨g, 0, rfl, h.2.2, h.1⟩
theorem HdNew.set {w : World} {g g' q n : Nat} {v : Value} {T M : Nat → Int} (h : HdNew w g n T M) (hg : g ≠ g') : HdNew (w.setCell ⟨g', q, none⟩ v) g n T M := by
  have e : (w.setCell ⟨g', q, none⟩ v).heap[g]? = w.heap[g]? := Below.heap_setCell _ _ _ _ (fun e => hg e)
  exact ⟨h.1.same e, h.2.1.same e, by simpa using h.2.2⟩
def LockPost (key : ByteArray) (hn wn : Nat) (ht hm wt wm : Nat → Int) (w : World) (r : Ending) (w' : World) : Prop :=
  ∃ g1 g2 : Nat, r = .returned (.agg #[.string key, .slice (some ⟨g1, 0, none⟩) hn hn, .slice (some ⟨g2, 0, none⟩) wn wn]) ∧ HdNew w' g1 hn ht hm ∧ HdNew w' g2 wn wt wm ∧ (w.heap.size ≤ g1 ∧ g1 < g2) ∧ Below w.heap.size w w'

set_option maxHeartbeats 1000000 in
theorem toLock_any (key : ByteArray) (ha wa : Option Addr) (hn hc wn wc : Nat) (ht hm wt wm : Nat → Int) (w : World) (hh : hn ≤ 1048576) (hw : wn ≤ 1048576) (hs : Sl w ha hn 2 (hdF ht hm)) (hs' : Sl w wa wn 2 (hdF wt wm)) :
    Calls Try.prog 79 #[.agg #[.string key, .slice ha hn hc, .slice wa wn wc]] w (LockPost key hn wn ht hm wt wm w) := by
  have HS : Hid (Sl w ha hn 2 (hdF ht hm) ∧ Sl w wa wn 2 (hdF wt wm)) := ⟨hs, hs'⟩
  clear hs hs'
  go_enter Try.func79, Try.ntmps79
  go_wp2_with fail
  refine (toHoldS_any _ _ _ ht hm _ hh (HS.out.1.below (B := w.heap.size) (by repeat (first | refine Below.setCell ?_ (by (try simp) <;> omega) _ | refine Below.alloc ?_ (by (try simp) <;> omega) _ | refine Below.drew ?_ | assumption | exact Below.refl _ _ | refine Below.trans ?_ (Below.mono (by assumption) (by (try simp) <;> omega)))) (Nat.le_refl _))).mono ?_
  rintro r w1 ⟨rfl, ⟨hE1, hR1⟩, hg1, hb1⟩
  have x0 := (((Bx.new w [.string key, .slice ha hn hc, .slice wa wn wc] 110).alloc _).alloc _).next hb1
  have x1 := ((Bx.new (w.alloc (.cells #[.string key, .slice ha hn hc, .slice wa wn wc] 110)) [.string ⟨#[]⟩, .slice none 0 0, .slice none 0 0] 48).alloc _).next hb1
  have x2 := (Bx.new ((w.alloc (.cells #[.string key, .slice ha hn hc, .slice wa wn wc] 110)).alloc (.cells #[.string ⟨#[]⟩, .slice none 0 0, .slice none 0 0] 48)) [.string key, .slice none 0 0, .slice none 0 0] 48).next hb1
  simp only [World.size_alloc] at x0 x1 x2 hE1 hR1 hg1 ⊢
  have hB1 : Below w.heap.size w w1 := by
    refine Below.trans ?_ (hb1.mono (by simp; omega))
    exact (by repeat (first | refine Below.setCell ?_ (by (try simp) <;> omega) _ | refine Below.alloc ?_ (by (try simp) <;> omega) _ | refine Below.drew ?_ | assumption | exact Below.refl _ _ | refine Below.trans ?_ (Below.mono (by assumption) (by (try simp) <;> omega))))
  clear hb1
  have HN1 : Hid (HdNew w1 (w.heap.size + 1 + 1 + 1) hn ht hm) := ⟨hE1, hR1, hg1⟩
  have HB1 : Hid (Below w.heap.size w w1) := hB1
  clear hE1 hR1 hB1
  have HX : Hid (Bx w1 w.heap.size [.string key, .slice ha hn hc, .slice wa wn wc] ∧ Bx w1 (w.heap.size + 1) [.string ⟨#[]⟩, .slice none 0 0, .slice none 0 0] ∧ Bx w1 (w.heap.size + 1 + 1) [.string key, .slice none 0 0, .slice none 0 0]) := ⟨x0, x1, x2⟩
  have c2 := x0.cell 2 rfl
  have o1 := x2.cell 1 rfl
  have f1 := x2.frz 1 (by simp)
  have z0 := x0.2
  have z2 := x2.2
  clear x0 x1 x2
  have c2' : (w1.setCell ⟨w.heap.size + 1 + 1, 1, none⟩ (.slice (some ⟨w.heap.size + 1 + 1 + 1, 0, none⟩) hn hn)).cell? ⟨w.heap.size, 2, none⟩ = some (.slice wa wn wc) := by
    rw [World.cell?_setCell_other _ _ _ _ (addr_ne' (by omega))]; exact c2
  go_wp2_with fail
  have hbs : Below w.heap.size w (w1.setCell ⟨w.heap.size + 1 + 1, 1, none⟩ (.slice (some ⟨w.heap.size + 1 + 1 + 1, 0, none⟩) hn hn)) := HB1.out.setCell (p := ⟨w.heap.size + 1 + 1, 1, none⟩) (by simp; omega) _
  refine (toHoldS_any _ _ _ wt wm _ hw (HS.out.2.below (B := w.heap.size) hbs (Nat.le_refl _))).mono ?_
  rintro r w2 ⟨rfl, ⟨hE2, hR2⟩, hg2, hb2⟩
  simp only [World.size_setCell] at hE2 hR2 hg2 ⊢
  have HN2 : Hid (HdNew w2 (w.heap.size + 1 + 1 + 1) hn ht hm ∧ HdNew w2 w1.heap.size wn wt wm) := ⟨(HN1.out.set (by omega)).next hb2, hE2, hR2, hg2⟩
  have HB2 : Hid (Below w.heap.size w w2) := hbs.trans (hb2.mono (by have := hbs.size; exact this))
  have x1 := (HX.out.2.1.other (g' := w.heap.size + 1 + 1) (q := 1) (v := .slice (some ⟨w.heap.size + 1 + 1 + 1, 0, none⟩) hn hn) (by omega)).next hb2
  have x2 := (HX.out.2.2.set (k := 1) (by simp) (.slice (some ⟨w.heap.size + 1 + 1 + 1, 0, none⟩) hn hn)).next hb2
  have hz1 : w.heap.size + 1 + 1 + 1 < w1.heap.size := HN1.out.2.2
  clear hE2 hR2 hbs hb2 c2 c2' o1 f1 z0 z2 HX HS HN1 HB1
  have p0 := x1.cell 0 rfl
  have p1 := x1.cell 1 rfl
  have p2 := x1.cell 2 rfl
  have q0 := x1.frz 0 (by simp)
  have q1 := x1.frz 1 (by simp)
  have q2 := x1.frz 2 (by simp)
  have o0 := x2.cell 0 rfl
  have o1 := x2.cell 1 rfl
  have o2 := x2.cell 2 rfl
  have f2 := x2.frz 2 (by simp)
  have z1 := x1.2
  have z2 := x2.2
  clear x1 x2
  go_wp2
  exact bodyPost_ret (v := .agg #[.string key, .slice (some ⟨w.heap.size + 1 + 1 + 1, 0, none⟩) hn hn, .slice (some ⟨w1.heap.size, 0, none⟩) wn wn]) (by simp [results, Try.results79, go_sem, p0, p1, p2]) rfl
    ⟨_, _, rfl, (((HN2.out.1.set (by omega)).set (by omega)).set (by omega)).set (by omega), (((HN2.out.2.set (by omega)).set (by omega)).set (by omega)).set (by omega), ⟨by omega, hz1⟩,
      (((HB2.out.setCell (p := ⟨w.heap.size + 1 + 1, 2, none⟩) (by simp; omega) _).setCell (p := ⟨w.heap.size + 1, 0, none⟩) (by simp) _).setCell (p := ⟨w.heap.size + 1, 1, none⟩) (by simp) _).setCell (p := ⟨w.heap.size + 1, 2, none⟩) (by simp) _⟩

def szL (l : Int) (k : Nat) : Int := if l < k then -1 else l - k
set_option maxHeartbeats 1000000 in
theorem szLock_any (key : ByteArray) (ha wa : Option Addr) (hn hc wn wc : Nat) (l : Int) (w : World) (hk : key.size ≤ maxLen) (hh : hn ≤ maxLen) (hw : wn ≤ maxLen) (h0 : 0 ≤ l) (h1 : l ≤ 1048576) :
    Calls Try.prog 78 #[.agg #[.string key, .slice ha hn hc, .slice wa wn wc], .int .i64 l] w fun r w' => ∃ l' : Int, r = .returned (.int .i64 l') ∧ -1 ≤ l' ∧ l' ≤ l ∧ (0 ≤ l' → key.size ≤ 1048576 ∧ hn ≤ 1048576 ∧ wn ≤ 1048576) ∧ Below w.heap.size w w' := by
  have hk' := hk
  unfold maxLen at hk'
  by_cases c1 : l - (key.size : Int) < 0
  · go_enter Try.func78, Try.ntmps78
    go_wp2
    go_ret
    exact ⟨-1, rfl, by omega, by omega, fun h => absurd h (by omega), (by repeat (first | refine Below.setCell ?_ (by (try simp) <;> omega) _ | refine Below.alloc ?_ (by (try simp) <;> omega) _ | refine Below.drew ?_ | assumption | exact Below.refl _ _ | refine Below.trans ?_ (Below.mono (by assumption) (by (try simp) <;> omega))))⟩
  · go_enter Try.func78, Try.ntmps78
    go_wp2_with fail
    refine (szHoldS_any _ _ _ _ _ hh (by omega) (by omega)).mono ?_
    rintro r w1 ⟨⟨l1, rfl, g1, g2, g3⟩, rfl⟩
    by_cases c2 : l1 < 0
    · go_wp2
      go_ret
      exact ⟨-1, rfl, by omega, by omega, fun h => absurd h (by omega), (by repeat (first | refine Below.setCell ?_ (by (try simp) <;> omega) _ | refine Below.alloc ?_ (by (try simp) <;> omega) _ | refine Below.drew ?_ | assumption | exact Below.refl _ _ | refine Below.trans ?_ (Below.mono (by assumption) (by (try simp) <;> omega))))⟩
    · go_wp2_with fail
      refine (szHoldS_any _ _ _ _ _ hw (by omega) (by omega)).mono ?_
      rintro r w1 ⟨⟨l2, rfl, k1, k2, k3⟩, rfl⟩
      by_cases c3 : l2 < 0
      · go_wp2
        go_ret
        exact ⟨-1, rfl, by omega, by omega, fun h => absurd h (by omega), (by repeat (first | refine Below.setCell ?_ (by (try simp) <;> omega) _ | refine Below.alloc ?_ (by (try simp) <;> omega) _ | refine Below.drew ?_ | assumption | exact Below.refl _ _ | refine Below.trans ?_ (Below.mono (by assumption) (by (try simp) <;> omega))))⟩
      · go_wp2
        go_ret
        exact ⟨l2, rfl, by omega, by omega, fun _ => ⟨by omega, g3 (by omega), k3 (by omega)⟩, (by repeat (first | refine Below.setCell ?_ (by (try simp) <;> omega) _ | refine Below.alloc ?_ (by (try simp) <;> omega) _ | refine Below.drew ?_ | assumption | exact Below.refl _ _ | refine Below.trans ?_ (Below.mono (by assumption) (by (try simp) <;> omega))))⟩

set_option maxHeartbeats 1000000 in
theorem eqLock_same (key : ByteArray) (ha wa ha' wa' : Option Addr) (hn hc wn wc hc' wc' : Nat) (ht hm wt wm : Nat → Int) (w : World) (hh : hn ≤ 1048576) (hw : wn ≤ 1048576) (hs : Sl w ha hn 2 (hdF ht hm)) (hs2 : Sl w wa wn 2 (hdF wt wm)) (hs' : Sl w ha' hn 2 (hdF ht hm)) (hs2' : Sl w wa' wn 2 (hdF wt wm)) :
    Calls Try.prog 80 #[.agg #[.string key, .slice ha hn hc, .slice wa wn wc], .agg #[.string key, .slice ha' hn hc', .slice wa' wn wc']] w fun r w' => r = .returned (.bool true) ∧ Below w.heap.size w w' := by
  have HS : Hid ((Sl w ha hn 2 (hdF ht hm) ∧ Sl w wa wn 2 (hdF wt wm)) ∧ Sl w ha' hn 2 (hdF ht hm) ∧ Sl w wa' wn 2 (hdF wt wm)) := ⟨⟨hs, hs2⟩, hs', hs2'⟩
  clear hs hs2 hs' hs2'
  go_enter Try.func80, Try.ntmps80
  go_wp2_with fail
  have hb0 : Below w.heap.size w ((w.alloc (.cells #[.string key, .slice ha hn hc, .slice wa wn wc] 48)).alloc (.cells #[.string key, .slice ha' hn hc', .slice wa' wn wc'] 48)) := (by repeat (first | refine Below.setCell ?_ (by (try simp) <;> omega) _ | refine Below.alloc ?_ (by (try simp) <;> omega) _ | refine Below.drew ?_ | assumption | exact Below.refl _ _ | refine Below.trans ?_ (Below.mono (by assumption) (by (try simp) <;> omega))))
  refine (eqHoldS_same _ _ _ _ _ ht hm _ hh (HS.out.1.1.kept hb0) (HS.out.2.1.kept hb0)).mono ?_
  rintro r w1 ⟨rfl, hb1⟩
  have x0 := ((Bx.new w [.string key, .slice ha hn hc, .slice wa wn wc] 48).alloc _).next hb1
  have x1 := (Bx.new (w.alloc (.cells #[.string key, .slice ha hn hc, .slice wa wn wc] 48)) [.string key, .slice ha' hn hc', .slice wa' wn wc'] 48).next hb1
  simp only [World.size_alloc] at x0 x1
  have HB1 : Hid (Below w.heap.size w w1) := hb0.trans (hb1.mono (by simp; omega))
  have c0 := x0.cell 2 rfl
  have c1 := x1.cell 2 rfl
  have z0 := x0.2
  have z1 := x1.2
  clear x0 x1 hb1 hb0
  go_wp2_with fail
  refine (eqHoldS_same _ _ _ _ _ wt wm _ hw (HS.out.1.2.kept HB1.out) (HS.out.2.2.kept HB1.out)).mono ?_
  rintro r w2 ⟨rfl, hb2⟩
  have HB2 : Hid (Below w.heap.size w w2) := below_next HB1.out hb2
  clear hb2
  go_wp2
  go_ret
  exact ⟨rfl, HB2.out⟩
end Go.Proofs.Ytnapgnkhajkbkaa
