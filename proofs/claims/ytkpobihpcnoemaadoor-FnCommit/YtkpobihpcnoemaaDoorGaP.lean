/- Put together of: Dr, DrU. -/
import Derived.Test.YtkpobihpcnoemaaDoorRows
import Derived.WalkKit
import Derived.WalkSpells
import Derived.WalkLawsBesides
import Derived.Deep.QuietTactic
import Derived.BigQuiet
import Derived.Test.YtkpobihpcnoemaaDoorGaK
import Derived.Deep.RegionWith
import Derived.Deep.DeepCutAuto
/- Draws: the contracts of the specification's cursor: next, pick, one, among. -/
namespace Go.Proofs.YtkpobihpcnoemaaDoor
open Go.RowKit
set_option linter.unusedVariables false

def byF (X : Nat → Int) (i j : Nat) : Value := .int .u8 (X i)
/-- Block g holds a cursor over n bytes that lie below it; it has been asked t times at most. -/
def Cur (w : World) (g : Nat) (a : Option Addr) (n cap : Nat) (X : Nat → Int) (t : Nat) : Prop :=
  w.cell? ⟨g, 0, none⟩ = some (.slice a n cap) ∧ (∃ p : Nat, p ≤ t ∧ w.cell? ⟨g, 1, none⟩ = some (.int .i64 p)) ∧ (∃ s : Int, (0 ≤ s ∧ s ≤ 18446744073709551615) ∧ w.cell? ⟨g, 2, none⟩ = some (.int .u64 s)) ∧
    w.frozen? ⟨g, 1, none⟩ = false ∧ w.frozen? ⟨g, 2, none⟩ = false ∧ g < w.heap.size ∧ (n = 0 ∨ ∃ b off, a = some ⟨b, off, none⟩ ∧ b < g ∧ Elems w b off n 1 (byF X)) ∧ n ≤ 9223372036854775807 ∧ ∀ i, i < n → 0 ≤ X i ∧ X i ≤ 255
theorem Cur.next {w w' : World} {g : Nat} {a : Option Addr} {n cap : Nat} {X : Nat → Int} {t : Nat} (h : Cur w g a n cap X t) (hb : Below w.heap.size w w') : Cur w' g a n cap X t := by
  obtain ⟨h0, ⟨p, hp, h1⟩, ⟨s, hs, h2⟩, f1, f2, hg, hE, hn, hX⟩ := h
  refine ⟨(hb.cell (p := ⟨g, 0, none⟩) hg).trans h0, ⟨p, hp, (hb.cell (p := ⟨g, 1, none⟩) hg).trans h1⟩, ⟨s, hs, (hb.cell (p := ⟨g, 2, none⟩) hg).trans h2⟩, (hb.frozen (p := ⟨g, 1, none⟩) hg).trans f1, (hb.frozen (p := ⟨g, 2, none⟩) hg).trans f2, Nat.lt_of_lt_of_le hg hb.size, ?_, hn, hX⟩
  rcases hE with h | ⟨b, off, e, hl, hE⟩
  · exact Or.inl h
  · exact Or.inr ⟨b, off, e, hl, hE.below hb (by omega)⟩
theorem Cur.up {w : World} {g : Nat} {a : Option Addr} {n cap : Nat} {X : Nat → Int} {t t' : Nat} (h : Cur w g a n cap X t) (ht : t ≤ t') : Cur w g a n cap X t' := by
  obtain ⟨h0, ⟨p, hp, h1⟩, r⟩ := h
  exact ⟨h0, ⟨p, by omega, h1⟩, r⟩
theorem Cur.set {w : World} {g : Nat} {a : Option Addr} {n cap : Nat} {X : Nat → Int} {t p : Nat} {s : Int} (h : Cur w g a n cap X t) (hp : p ≤ t + 1) (hs : 0 ≤ s ∧ s ≤ 18446744073709551615) :
    Cur ((w.setCell ⟨g, 1, none⟩ (.int .i64 p)).setCell ⟨g, 2, none⟩ (.int .u64 s)) g a n cap X (t + 1) := by
  obtain ⟨h0, ⟨p0, hp0, h1⟩, ⟨s0, hs0, h2⟩, f1, f2, hg, hE, hn, hX⟩ := h
  refine ⟨?_, ⟨p, hp, ?_⟩, ⟨s, hs, ?_⟩, by simpa using f1, by simpa using f2, by simpa using hg, ?_, hn, hX⟩
  · rw [World.cell?_setCell_other _ _ _ _ (addr_ne (by omega)), World.cell?_setCell_other _ _ _ _ (addr_ne (by omega))]; exact h0
  · rw [World.cell?_setCell_other _ _ _ _ (addr_ne (by omega))]; exact World.cell?_setCell_same _ _ _ h1
  · exact World.cell?_setCell_same (w := w.setCell ⟨g, 1, none⟩ (.int .i64 p)) _ _ (by rw [World.cell?_setCell_other _ _ _ _ (addr_ne (by omega))]; exact h2)
  · rcases hE with h | ⟨b, off, e, hl, hE⟩
    · exact Or.inl h
    · exact Or.inr ⟨b, off, e, hl, fun i hi j hj => by rw [World.cell?_setCell_other _ _ _ _ (addr_ne' (by omega)), World.cell?_setCell_other _ _ _ _ (addr_ne' (by omega))]; exact hE i hi j hj⟩
/-- What a draw leaves. -/
def Drew (g : Nat) (a : Option Addr) (n cap : Nat) (X : Nat → Int) (t : Nat) (w w' : World) : Prop := Cur w' g a n cap X t ∧ Trn g (g + 1) w w'

theorem wrap_bd (n : Int) : 0 ≤ IntKind.u64.wrap n ∧ IntKind.u64.wrap n ≤ 18446744073709551615 := by rw [IntKind.wrap_u64]; omega
theorem and_255 (y : Int) (h0 : 0 ≤ y) (h1 : y ≤ 18446744073709551615) : bits BinOp.and IntKind.u64 y 255 = y % 256 := by
  have h := bits_and_u64_nat y.toNat 255 (by omega) (by omega)
  have e : y.toNat &&& 255 = y.toNat % 256 := Nat.and_two_pow_sub_one_eq_mod y.toNat 8
  rw [e, Int.toNat_of_nonneg h0] at h
  have h2 : ((y.toNat % 256 : Nat) : Int) = y % 256 := by omega
  exact h.trans h2
theorem mask_bd (y : Int) (h : 0 ≤ y ∧ y ≤ 18446744073709551615) : 0 ≤ wrap64 (bits BinOp.and IntKind.u64 (y / 1099511627776) 255) ∧ wrap64 (bits BinOp.and IntKind.u64 (y / 1099511627776) 255) ≤ 255 := by
  rw [and_255 _ (by omega) (by omega)]; unfold wrap64; omega
theorem Trn.drew (B C : Nat) (w : World) (m : Nat) : Trn B C w (w.drewN m) := (Trn.refl _ _ _).next (below_drewN (Below.refl _ _) m)
theorem drew_of {w : World} {g : Nat} {a : Option Addr} {n cap : Nat} {X : Nat → Int} {t p : Nat} {s : Int} (h : Cur w g a n cap X t) (m k : Nat) (hp : p ≤ t) (hs : 0 ≤ s ∧ s ≤ 18446744073709551615) :
    Drew g a n cap X (t + 1) w ((((w.drewN m).setCell ⟨g, 1, none⟩ (.int .i64 ((p : Int) + 1))).setCell ⟨g, 2, none⟩ (.int .u64 s)).drewN k) := by
  have e : (p : Int) + 1 = ((p + 1 : Nat) : Int) := by omega
  rw [e]
  have hb : Below w.heap.size w (w.drewN m) := below_drewN (Below.refl _ _) m
  exact ⟨((h.next hb).set (p := p + 1) (by omega) hs).next (below_drewN (Below.refl _ _) k), ((((Trn.refl _ _ _).next hb).set (p := ⟨g, 1, none⟩) (Nat.le_refl _) (by simp) _).set (p := ⟨g, 2, none⟩) (Nat.le_refl _) (by simp) _).next (below_drewN (Below.refl _ _) k)⟩
theorem Drew.trans {w w' w'' : World} {g : Nat} {a : Option Addr} {n cap : Nat} {X : Nat → Int} {t t' : Nat} (h : Drew g a n cap X t w w') (k : Drew g a n cap X t' w' w'') : Drew g a n cap X t' w w'' := ⟨k.1, h.2.trans k.2⟩
theorem Drew.up {w w' : World} {g : Nat} {a : Option Addr} {n cap : Nat} {X : Nat → Int} {t t' : Nat} (h : Drew g a n cap X t w w') (ht : t ≤ t') : Drew g a n cap X t' w w' := ⟨h.1.up ht, h.2⟩
theorem Drew.refl {w : World} {g : Nat} {a : Option Addr} {n cap : Nat} {X : Nat → Int} {t : Nat} (h : Cur w g a n cap X t) : Drew g a n cap X t w w := ⟨h, Trn.refl _ _ _⟩

set_option maxRecDepth 100000 in
set_option maxHeartbeats 1000000 in
theorem curNext_any (g : Nat) (a : Option Addr) (n cap : Nat) (X : Nat → Int) (t : Nat) (w : World) (ht : t ≤ 1000000) (hc : Cur w g a n cap X t) :
    Calls Tryd.prog 70 #[.pointer (some ⟨g, 0, none⟩)] w fun r w' => ∃ x : Int, (0 ≤ x ∧ x ≤ 255) ∧ r = .returned (.int .i64 x) ∧ Drew g a n cap X (t + 1) w w' := by
  have HC : Hid (Cur w g a n cap X t) := hc
  obtain ⟨h0, ⟨p, hp, h1⟩, ⟨s, hs, h2⟩, f1, f2, hg, hE, hn, hX⟩ := hc
  by_cases hlt : p < n
  · rcases hE with h | ⟨b, off, rfl, hl, hE⟩
    · omega
    have hlt' : (p : Int) < (n : Int) := by omega
    have hle' : (p : Int) + 1 ≤ (n : Int) := by omega
    have c0 : w.cell? ⟨b, off + p, none⟩ = some (.int .u8 (X p)) := by have := hE p hlt 0 (by omega); simpa [byF] using this
    have hx := hX p hlt
    clear hE hX
    go_enter Tryd.func70, Tryd.ntmps70
    go_upto_region 2 with fail
    go_quiet (fail)
    go_wp2_with fail
    go_quiet (fail)
    go_wp2_with fail
    go_quiet (fail)
    go_wp2
    go_ret
    exact ⟨X p, hx, rfl, drew_of HC.out _ _ hp (wrap_bd _)⟩
  · have hlt' : ¬ (p : Int) < (n : Int) := by omega
    have hle' : ¬ (p : Int) + 1 ≤ (n : Int) := by omega
    clear hE hX
    go_enter Tryd.func70, Tryd.ntmps70
    go_upto_region 2 with fail
    go_quiet (fail)
    go_wp2_with fail
    go_quiet (fail)
    go_wp2
    go_ret
    exact ⟨_, mask_bd _ (wrap_bd _), rfl, drew_of HC.out _ _ hp (wrap_bd _)⟩

theorem tmod_bd {x m : Int} (h0 : 0 ≤ x) (hm : 1 < m) : 0 ≤ x.tmod m ∧ (x.tmod m < m ∨ x.tmod m = 0) := ⟨Int.tmod_nonneg m h0, Or.inl (Int.tmod_lt_of_pos x (by omega))⟩
theorem emod_bd {x m : Int} (h0 : 0 ≤ x) (hm : 1 < m) : 0 ≤ x % m ∧ (x % m < m ∨ x % m = 0) := ⟨Int.emod_nonneg x (by omega), Or.inl (Int.emod_lt_of_pos x (by omega))⟩
set_option maxRecDepth 100000 in
set_option maxHeartbeats 1000000 in
theorem pick_any (g : Nat) (a : Option Addr) (n cap : Nat) (X : Nat → Int) (t : Nat) (m : Int) (w : World) (ht : t ≤ 999990) (hm : m ≤ 1099511627776) (hc : Cur w g a n cap X t) :
    Calls Tryd.prog 50 #[.pointer (some ⟨g, 0, none⟩), .int .i64 m] w fun r w' => ∃ x : Int, (0 ≤ x ∧ (x < m ∨ x = 0)) ∧ r = .returned (.int .i64 x) ∧ Drew g a n cap X (t + 2) w w' := by
  have HC : Hid (Cur w g a n cap X t) := hc
  clear hc
  by_cases h1 : m ≤ 1
  · go_enter Tryd.func50, Tryd.ntmps50
    go_wp2
    go_ret
    exact ⟨0, by omega, rfl, (Drew.refl HC.out).up (by omega)⟩
  have hm0 : ¬ m = 0 := by omega
  have hm1 : 1 < m := by omega
  go_enter Tryd.func50, Tryd.ntmps50
  go_wp2_with fail
  refine (curNext_any _ _ _ _ _ _ _ (by omega) HC.out).mono ?_
  rintro r w1 ⟨x, hx, rfl, hd⟩
  have H1 : Hid (Drew g a n cap X (t + 1) w w1) := hd
  clear hd HC
  by_cases h2 : 200 < m
  · go_wp2_with fail
    refine (curNext_any _ _ _ _ _ _ _ (by omega) H1.out.1).mono ?_
    rintro r w2 ⟨y, hy, rfl, hd⟩
    have H2 : Hid (Drew g a n cap X (t + 2) w w2) := H1.out.trans hd
    clear hd H1
    go_wp2
    go_ret
    exact ⟨_, by first | exact emod_bd (by omega) hm1 | exact tmod_bd (by omega) hm1, rfl, H2.out⟩
  · go_wp2
    go_ret
    exact ⟨_, by first | exact emod_bd (by omega) hm1 | exact tmod_bd (by omega) hm1, rfl, H1.out.up (by omega)⟩
set_option maxHeartbeats 400000 in
theorem one_any (g : Nat) (a : Option Addr) (n cap : Nat) (X : Nat → Int) (t : Nat) (m : Int) (w : World) (ht : t ≤ 999990) (hm : m ≤ 1099511627776) (hc : Cur w g a n cap X t) :
    Calls Tryd.prog 58 #[.pointer (some ⟨g, 0, none⟩), .int .i64 m] w fun r w' => ∃ b : Bool, r = .returned (.bool b) ∧ Drew g a n cap X (t + 2) w w' := by
  have HC : Hid (Cur w g a n cap X t) := hc
  clear hc
  go_enter Tryd.func58, Tryd.ntmps58
  go_wp2_with fail
  refine (pick_any _ _ _ _ _ _ _ _ ht hm HC.out).mono ?_
  rintro r w1 ⟨x, hx, rfl, hd⟩
  have H1 : Hid (Drew g a n cap X (t + 2) w w1) := hd
  clear hd HC
  go_wp2
  go_ret
  exact ⟨_, rfl, H1.out⟩
end Go.Proofs.YtkpobihpcnoemaaDoor
/- Draws: how a cursor stands through other stores; no Go text is spoken of here. -/
namespace Go.Proofs.YtkpobihpcnoemaaDoor
open Go.RowKit
set_option linter.unusedVariables false

theorem Trn.alloc {B C : Nat} {a w : World} (h : Trn B C a w) (o : Obj) : Trn B C a (w.alloc o) := h.next (Go.Joins.below_alloc1 _ _)
theorem Cur.out {w : World} {g k q : Nat} {a : Option Addr} {n cap : Nat} {X : Nat → Int} {t : Nat} (h : Cur w g a n cap X t) (hk : g < k) (v : Value) : Cur (w.setCell ⟨k, q, none⟩ v) g a n cap X t := by
  obtain ⟨h0, ⟨p, hp, h1⟩, ⟨s, hs, h2⟩, f1, f2, hg, hE, hn, hX⟩ := h
  refine ⟨?_, ⟨p, hp, ?_⟩, ⟨s, hs, ?_⟩, by simpa using f1, by simpa using f2, by simpa using hg, ?_, hn, hX⟩
  · rw [World.cell?_setCell_other _ _ _ _ (addr_ne' (by omega))]; exact h0
  · rw [World.cell?_setCell_other _ _ _ _ (addr_ne' (by omega))]; exact h1
  · rw [World.cell?_setCell_other _ _ _ _ (addr_ne' (by omega))]; exact h2
  · rcases hE with h | ⟨b, off, e, hl, hE⟩
    · exact Or.inl h
    · exact Or.inr ⟨b, off, e, hl, fun i hi j hj => by rw [World.cell?_setCell_other _ _ _ _ (addr_ne' (by omega))]; exact hE i hi j hj⟩
theorem Trn.out {B C : Nat} {a w : World} (h : Trn B C a w) {p : Addr} (hp : a.heap.size ≤ p.block) (v : Value) : Trn B C a (w.setCell p v) :=
  ⟨h.1, h.2.1, h.2.2.1, by simpa using h.2.2.2.1, fun k hk hx => (Below.heap_setCell _ _ _ _ (by omega)).trans (h.2.2.2.2 k hk hx)⟩
theorem Drew.out {w w' : World} {g k q : Nat} {a : Option Addr} {n cap : Nat} {X : Nat → Int} {t : Nat} (h : Drew g a n cap X t w w') (hg : g < w.heap.size) (hk : w.heap.size ≤ k) (v : Value) : Drew g a n cap X t w (w'.setCell ⟨k, q, none⟩ v) :=
  ⟨h.1.out (by omega) v, h.2.out (p := ⟨k, q, none⟩) hk v⟩
theorem Cur.new {w : World} {a : Option Addr} {n cap : Nat} {X : Nat → Int} (y : TypeId) (hs : Sl w a n 1 (byF X)) (hn : n ≤ 9223372036854775807) (hX : ∀ i, i < n → 0 ≤ X i ∧ X i ≤ 255) : Cur (w.alloc (.cells #[.slice a n cap, .int .i64 0, .int .u64 0] y)) w.heap.size a n cap X 0 := by
  refine ⟨by simp, ⟨0, by omega, by simp⟩, ⟨0, by omega, by simp⟩, by simp, by simp, by simp, ?_, hn, hX⟩
  rcases hs with h | ⟨b, off, rfl, hb, hE⟩
  · exact Or.inl h
  · exact Or.inr ⟨b, off, rfl, hb, hE.below (Go.Joins.below_alloc1 _ _) hb⟩
theorem own_trn {w w' : World} {base B C : Nat} {e : TypeId} {size : Nat} {v : Value} {n : Nat} {xs : List Value} (h : w.ownsRow base e size v n xs) (ht : Trn B C w w') (hC : C ≤ base) : w'.ownsRow base e size v n xs := by
  obtain ⟨h1, h2⟩ := h
  refine ⟨h1, ?_⟩
  rcases h2 with h2 | ⟨g, cap, cur, hv, hgb, hh, r⟩
  · exact Or.inl h2
  · have hlt : g < w.heap.size := by
      rcases Nat.lt_or_ge g w.heap.size with q | q
      · exact q
      · rw [Array.getElem?_eq_none q] at hh; cases hh
    exact Or.inr ⟨g, cap, cur, hv, hgb, by rw [ht.2.2.2.2 g hlt (Or.inr (by omega))]; exact hh, r⟩
theorem Cur.grown {w w' : World} {g : Nat} {a : Option Addr} {n cap : Nat} {X : Nat → Int} {t : Nat} {row : Option Nat} (h : Cur w g a n cap X t) (hg : w.grownBy w' row) (hne : ∀ j, row = some j → g < j) : Cur w' g a n cap X t := by
  obtain ⟨h0, ⟨p, hp, h1⟩, ⟨s, hs, h2⟩, f1, f2, hgl, hE, hn, hX⟩ := h
  have hk : ∀ j, j ≤ g → some j ≠ row := fun j hj e => by have := hne j e.symm; omega
  have e := hg.block g hgl (hk g (Nat.le_refl _))
  refine ⟨(World.cell?_of_block (a := ⟨g, 0, none⟩) e).trans h0, ⟨p, hp, (World.cell?_of_block (a := ⟨g, 1, none⟩) e).trans h1⟩, ⟨s, hs, (World.cell?_of_block (a := ⟨g, 2, none⟩) e).trans h2⟩, (World.frozen?_of_block (a := ⟨g, 1, none⟩) e).trans f1, (World.frozen?_of_block (a := ⟨g, 2, none⟩) e).trans f2, Nat.lt_of_lt_of_le hgl hg.size, ?_, hn, hX⟩
  rcases hE with h | ⟨b, off, rfl, hl, hE⟩
  · exact Or.inl h
  · exact Or.inr ⟨b, off, rfl, hl, hE.same (hg.block b (by omega) (hk b (by omega)))⟩
end Go.Proofs.YtkpobihpcnoemaaDoor
