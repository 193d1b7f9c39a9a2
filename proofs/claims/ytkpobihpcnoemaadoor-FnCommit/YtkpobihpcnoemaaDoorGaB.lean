/- Put together of: In, IntF, Ints, RowS. -/
import Derived.Test.YtkpobihpcnoemaaDoorProg
import Derived.WalkKit
import Derived.WalkSpells
import Derived.WalkLawsBesides
import Derived.Test.YtkpobihpcnoemaaDoorGaK
import Derived.Deep.RegionWith
import Derived.Deep.DeepCutAuto
import Derived.Deep.AppendLies
/- Whether a number lies between two others: the contracts of inRange and of the specification's own. -/
namespace Go.Proofs.YtkpobihpcnoemaaDoor
open Go.RowKit
set_option linter.unusedVariables false

def inR (n lo hi : Int) : Bool := decide (lo ≤ n) && decide (n ≤ hi)
theorem inR_iff {n lo hi : Int} : inR n lo hi = true ↔ lo ≤ n ∧ n ≤ hi := by simp [inR]
theorem ret_bool {a b : Bool} (h : a = b) : Ending.returned (.bool a) = .returned (.bool b) := by rw [h]

set_option maxHeartbeats 400000 in
theorem inRange_any (n lo hi : Int) (w : World) :
    Calls Tryd.prog 45 #[.int .i64 n, .int .i64 lo, .int .i64 hi] w fun e w' => e = .returned (.bool (inR n lo hi)) ∧ w' = w := by
  by_cases h1 : lo ≤ n
  · by_cases h2 : n ≤ hi
    · go_enter Tryd.func45, Tryd.ntmps45
      go_wp2
      go_ret
      exact ⟨ret_bool (by simp [inR, h1, h2]), rfl⟩
    · go_enter Tryd.func45, Tryd.ntmps45
      go_wp2
      go_ret
      exact ⟨ret_bool (by simp [inR, h2]), rfl⟩
  · go_enter Tryd.func45, Tryd.ntmps45
    go_wp2
    go_ret
    exact ⟨ret_bool (by simp [inR]; omega), rfl⟩

set_option maxHeartbeats 400000 in
theorem l1In_any (n lo hi : Int) (w : World) :
    Calls Tryd.prog 60 #[.int .i64 n, .int .i64 lo, .int .i64 hi] w fun e w' => e = .returned (.bool (inR n lo hi)) ∧ w' = w := by
  by_cases h1 : lo ≤ n
  · by_cases h2 : n ≤ hi
    · go_enter Tryd.func60, Tryd.ntmps60
      go_wp2
      go_ret
      exact ⟨ret_bool (by simp [inR, h1, h2]), rfl⟩
    · go_enter Tryd.func60, Tryd.ntmps60
      go_wp2
      go_ret
      exact ⟨ret_bool (by simp [inR, h2]), rfl⟩
  · go_enter Tryd.func60, Tryd.ntmps60
    go_wp2
    go_ret
    exact ⟨ret_bool (by simp [inR]; omega), rfl⟩
end Go.Proofs.YtkpobihpcnoemaaDoor
/- A list of numbers, cell by cell. -/
namespace Go.Proofs.YtkpobihpcnoemaaDoor
open Go.RowKit
set_option linter.unusedVariables false
def intF (X : Nat → Int) (i _ : Nat) : Value := .int .i64 (X i)
theorem int_cell {w : World} {b off n k : Nat} {X : Nat → Int} (h : Elems w b off n 1 (intF X)) (hk : k < n) : w.cell? ⟨b, off + k, none⟩ = some (.int .i64 (X k)) := by
  have := h k hk 0 (by omega); simpa [intF] using this
end Go.Proofs.YtkpobihpcnoemaaDoor
/- Lists of numbers in a row of their own: toIntS, eqIntS, markIntS, heldIntS. -/
namespace Go.Proofs.YtkpobihpcnoemaaDoor
open Go.RowKit
set_option linter.unusedVariables false

/-- n numbers of a list in a block of B..C-1 that may be written (or none). -/
def IntS (w : World) (B C : Nat) (a : Option Addr) (n : Nat) (X : Nat → Int) : Prop :=
  n = 0 ∨ ∃ g, a = some ⟨g, 0, none⟩ ∧ B ≤ g ∧ g < C ∧ g < w.heap.size ∧ ∀ i, i < n → w.cell? ⟨g, i, none⟩ = some (.int .i64 (X i)) ∧ w.frozen? ⟨g, i, none⟩ = false
theorem IntS.sl {w : World} {B C : Nat} {a : Option Addr} {n : Nat} {X : Nat → Int} (h : IntS w B C a n X) : Sl w a n 1 (intF X) := by
  rcases h with h | ⟨g, ha, _, _, hg, hc⟩
  · exact Or.inl h
  · refine Or.inr ⟨g, 0, ha, hg, fun i hi j hj => ?_⟩
    have : j = 0 := by omega
    subst this
    have := (hc i hi).1
    simpa [intF] using this
theorem IntS.below {B' : Nat} {w w' : World} {B C : Nat} {a : Option Addr} {n : Nat} {X : Nat → Int} (h : IntS w B C a n X) (hb : Below B' w w') (hC : C ≤ B') : IntS w' B C a n X := by
  rcases h with h | ⟨g, ha, hB, hc, hg, hx⟩
  · exact Or.inl h
  · exact Or.inr ⟨g, ha, hB, hc, Nat.lt_of_lt_of_le hg hb.size, fun i hi => ⟨(hb.cell (p := ⟨g, i, none⟩) (by show g < B'; omega)).trans (hx i hi).1, (hb.frozen (p := ⟨g, i, none⟩) (by show g < B'; omega)).trans (hx i hi).2⟩⟩
theorem IntS.congr {w : World} {B C : Nat} {a : Option Addr} {n : Nat} {X Y : Nat → Int} (h : IntS w B C a n X) (e : ∀ i, i < n → X i = Y i) : IntS w B C a n Y := by
  rcases h with h | ⟨g, ha, hB, hc, hg, hx⟩
  · exact Or.inl h
  · exact Or.inr ⟨g, ha, hB, hc, hg, fun i hi => ⟨by rw [← e i hi]; exact (hx i hi).1, (hx i hi).2⟩⟩
theorem IntS.wide {w : World} {B C B' C' : Nat} {a : Option Addr} {n : Nat} {X : Nat → Int} (h : IntS w B C a n X) (hB : B' ≤ B) (hC : C ≤ C') : IntS w B' C' a n X := by
  rcases h with h | ⟨g, ha, hb, hc, r⟩
  · exact Or.inl h
  · exact Or.inr ⟨g, ha, by omega, by omega, r⟩
/-- Only blocks of B..C-1 have turned. -/
def Turned (B C : Nat) (w w' : World) : Prop := w'.os = w.os ∧ w'.tape = w.tape ∧ w'.output = w.output ∧ w.heap.size ≤ w'.heap.size ∧ ∀ k, k < w.heap.size → (k < B ∨ C ≤ k) → w'.heap[k]? = w.heap[k]?
theorem Turned.refl (B C : Nat) (w : World) : Turned B C w w := ⟨rfl, rfl, rfl, Nat.le_refl _, fun _ _ _ => rfl⟩
theorem Turned.trans {B C : Nat} {a b c : World} (h : Turned B C a b) (k : Turned B C b c) : Turned B C a c :=
  ⟨k.1.trans h.1, k.2.1.trans h.2.1, k.2.2.1.trans h.2.2.1, Nat.le_trans h.2.2.2.1 k.2.2.2.1, fun i hi hx => (k.2.2.2.2 i (Nat.lt_of_lt_of_le hi h.2.2.2.1) hx).trans (h.2.2.2.2 i hi hx)⟩
theorem Turned.wide {B C B' C' : Nat} {w w' : World} (h : Turned B C w w') (hB : B' ≤ B) (hC : C ≤ C') : Turned B' C' w w' :=
  ⟨h.1, h.2.1, h.2.2.1, h.2.2.2.1, fun k hk hx => h.2.2.2.2 k hk (by omega)⟩
theorem Turned.set {B C : Nat} {a w : World} (h : Turned B C a w) {p : Addr} (h1 : B ≤ p.block) (h2 : p.block < C) (v : Value) : Turned B C a (w.setCell p v) :=
  h.trans ⟨rfl, rfl, rfl, by simp [World.setCell], fun k _ hx => Below.heap_setCell _ _ _ _ (by omega)⟩
theorem Turned.below {B C D : Nat} {w w' : World} (h : Turned B C w w') (hD : D ≤ B) (hs : D ≤ w.heap.size) : Below D w w' :=
  ⟨h.1, h.2.1, h.2.2.1, h.2.2.2.1, fun k hk => h.2.2.2.2 k (by omega) (Or.inl (by omega))⟩
theorem Turned.of_below {B C : Nat} {w w' : World} (h : Below w.heap.size w w') : Turned B C w w' := ⟨h.os, h.tape, h.output, h.size, fun k hk _ => h.block k hk⟩
theorem Turned.ints {B C B' C' : Nat} {w w' : World} {a : Option Addr} {n : Nat} {X : Nat → Int} (h : Turned B C w w') (hi : IntS w B' C' a n X) (ha : C' ≤ B ∨ C ≤ B') : IntS w' B' C' a n X := by
  rcases hi with hi | ⟨g, e, hB, hc, hg, hx⟩
  · exact Or.inl hi
  · have hk := h.2.2.2.2 g hg (by omega)
    exact Or.inr ⟨g, e, hB, hc, Nat.lt_of_lt_of_le hg h.2.2.2.1, fun i hi => ⟨(World.cell?_of_block (a := ⟨g, i, none⟩) hk).trans (hx i hi).1, (World.frozen?_of_block (a := ⟨g, i, none⟩) hk).trans (hx i hi).2⟩⟩
theorem IntS.set {w : World} {B C g n k : Nat} {X : Nat → Int} {v : Int} (h : IntS w B C (some ⟨g, 0, none⟩) n X) (hk : k < n) : IntS (w.setCell ⟨g, k, none⟩ (.int .i64 v)) B C (some ⟨g, 0, none⟩) n (fun i => if i = k then v else X i) := by
  rcases h with h | ⟨g', e, hB, hc, hg, hx⟩
  · omega
  · simp only [Option.some.injEq, Addr.mk.injEq, and_true] at e
    subst e
    refine Or.inr ⟨g, rfl, hB, hc, by simpa using hg, fun i hi => ⟨?_, by simpa using (hx i hi).2⟩⟩
    by_cases e : i = k
    · subst e; simp only [if_true]; exact World.cell?_setCell_same _ _ _ (hx i hi).1
    · rw [World.cell?_setCell_other _ _ _ _ (addr_ne (fun q => e q.symm))]; simp only [if_neg e]; exact (hx i hi).1
theorem info_int : (Tryd.prog.info? 3).map (fun i => (i.zero, i.size, i.bytes)) = some (some (.int .i64 0), 1, 8) := by kernel_rfl

set_option maxHeartbeats 1000000 in
theorem toIntS_any (a : Option Addr) (n cap : Nat) (X : Nat → Int) (w : World) (hn : n ≤ 1048576) (hs : Sl w a n 1 (intF X)) :
    Calls Tryd.prog 25 #[.slice a n cap] w fun r w' => r = .returned (.slice (some ⟨w.heap.size, 0, none⟩) n n) ∧ IntS w' w.heap.size (w.heap.size + 1) (some ⟨w.heap.size, 0, none⟩) n X ∧ w.heap.size < w'.heap.size ∧ Below w.heap.size w w' := by
  obtain ⟨i0, hi, hz0, hz1, hz2⟩ := info_parts info_int
  go_enter Tryd.func25, Tryd.ntmps25
  go_wp2_with (at_make; refine wpList_make_full _ rfl (.tmp 6) (.tmp 6) 23 rfl w.heap.size 3 i0 (.int .i64 0) 1 Tryd.underlying23 hi hz0 hz1 .i64 .i64 _ _ n rfl rfl rfl rfl (by rw [hz2]; omega) (by unfold maxLen; omega) (Nat.le_refl _) ?_; intro w1 hown hgrow)
  have hR := room_made hown
  have hB : Below w.heap.size w w1 := (Below.refl _ _).grown hgrow (Nat.le_refl _) (fun k hk => by cases hk)
  have hG : w.heap.size < w1.heap.size := by
    obtain ⟨_, h | ⟨g', cap', cur, hv, hb, hh, _⟩⟩ := hown
    · exact absurd h.1 (by simp)
    · simp only [Value.slice.injEq, Option.some.injEq, Addr.mk.injEq, and_true, true_and] at hv
      obtain ⟨rfl, rfl⟩ := hv
      rcases Nat.lt_or_ge w.heap.size w1.heap.size with h | h
      · exact h
      · rw [Array.getElem?_eq_none h] at hh; cases hh
  clear hown hgrow hi hz0 hz1 hz2
  go_loopw [4] (fun i wr => ∃ k : Nat, k ≤ n ∧ i = .int .i64 k ∧ Room wr w.heap.size (n * 1) ∧ Elems wr w.heap.size 0 k 1 (intF X) ∧ w.heap.size < wr.heap.size ∧ Below w.heap.size w wr) (fun i _ => n - (intOf i).toNat)
  case atStart => exact ⟨0, Nat.zero_le _, rfl, hR, fun i hi => absurd hi (by omega), hG, hB⟩
  case round =>
    obtain ⟨k, hk, rfl, hRr, hEr, hGr, hBr⟩ := hrel
    clear hR hB hG
    by_cases hlt : k < n
    · rcases hs.below hBr (Nat.le_refl _) with h | ⟨b, off, rfl, hbs, hE⟩
      · omega
      have hc := int_cell hE hlt
      have hlt' : (k : Int) < (n : Int) := by omega
      obtain ⟨⟨x, hx⟩, hf⟩ := hRr k (by omega)
      have R : Hid (Room (put wr w.heap.size (k * 1) [.int .i64 (X k)]) w.heap.size (n * 1) ∧ Elems (put wr w.heap.size (k * 1) [.int .i64 (X k)]) w.heap.size 0 (k + 1) 1 (intF X) ∧ w.heap.size < (put wr w.heap.size (k * 1) [.int .i64 (X k)]).heap.size ∧ Below w.heap.size w (put wr w.heap.size (k * 1) [.int .i64 (X k)])) :=
        ⟨put_room _ _ _ hRr (by simp; omega), hEr.step hRr hlt rfl (fun j hj => by match j, hj with | 0, _ => rfl), by rw [put_size]; exact hGr, put_below (Nat.le_refl _) _ _ _ _ hBr⟩
      clear hRr hEr hBr hs hE
      go_wp2
      go_roundw
      case rel => exact ⟨k + 1, by omega, by go_num, by have := R.out; simpa [put] using this⟩
      case measure => simp [intOf]; omega
    · have hkn : k = n := by omega
      subst hkn
      have HH : Hid (IntS wr w.heap.size (w.heap.size + 1) (some ⟨w.heap.size, 0, none⟩) k X ∧ w.heap.size < wr.heap.size ∧ Below w.heap.size w wr) :=
        ⟨Or.inr ⟨_, rfl, Nat.le_refl _, by omega, hGr, fun i hi => ⟨by have := hEr i hi 0 (by omega); simpa [intF] using this, (hRr i (by omega)).2⟩⟩, hGr, hBr⟩
      clear hs hEr hBr hRr
      go_wp2
      go_ret
      exact ⟨rfl, HH.out⟩

set_option maxHeartbeats 1000000 in
theorem eqIntS_same (a a' : Option Addr) (n cap cap' : Nat) (X : Nat → Int) (w : World) (hn : n ≤ 1048576) (hs : Sl w a n 1 (intF X)) (hs' : Sl w a' n 1 (intF X)) :
    Calls Tryd.prog 28 #[.slice a n cap, .slice a' n cap'] w fun r w' => r = .returned (.bool true) ∧ Below w.heap.size w w' := by
  go_enter Tryd.func28, Tryd.ntmps28
  go_wp2
  go_loopw [5] (fun i wr => ∃ k : Nat, k ≤ n ∧ i = .int .i64 k ∧ Below w.heap.size w wr) (fun i _ => n - (intOf i).toNat)
  case atStart => exact ⟨0, Nat.zero_le _, rfl, Below.refl _ _⟩
  case round =>
    obtain ⟨k, hk, rfl, hBr⟩ := hrel
    by_cases hlt : k < n
    · rcases hs.below hBr (Nat.le_refl _) with h | ⟨b, off, rfl, hbs, hE⟩
      · omega
      rcases hs'.below hBr (Nat.le_refl _) with h | ⟨b', off', rfl, hbs', hE'⟩
      · omega
      have hc := int_cell hE hlt
      have hc' := int_cell hE' hlt
      have hlt' : (k : Int) < (n : Int) := by omega
      clear hs hs' hE hE'
      go_upto_region 6 with fail
      go_cut [25] (fun s25 wx => s25 = .bool false ∧ Below w.heap.size w wx)
      case first =>
        go_region
        all_goals (go_wp2_with fail; go_meet; exact ⟨rfl, hBr.drew⟩)
      case rest =>
        obtain ⟨rfl, hb2⟩ := hcut
        go_wp2
        go_roundw
        case rel => exact ⟨k + 1, by omega, by go_num, hb2⟩
        case measure => simp [intOf]; omega
    · have hkn : k = n := by omega
      subst hkn
      clear hs hs'
      go_wp2
      go_ret
      exact ⟨rfl, hBr⟩

set_option maxHeartbeats 1000000 in
theorem markIntS_any (a : Option Addr) (n cap : Nat) (X : Nat → Int) (q : Int) (B C : Nat) (w : World) (hn : n ≤ 1048576) (h0 : 0 ≤ q) (h1 : q ≤ 1099511627776) (hs : IntS w B C a n X) :
    Calls Tryd.prog 30 #[.slice a n cap, .int .i64 q] w fun r w' => r = .returned (.int .i64 (q + n)) ∧ IntS w' B C a n (fun i => q + i) ∧ Turned B C w w' := by
  go_enter Tryd.func30, Tryd.ntmps30
  go_wp2
  go_loopw [5, 1] (fun i q' wr => ∃ k : Nat, k ≤ n ∧ i = .int .i64 k ∧ q' = .int .i64 (q + k) ∧ IntS wr B C a n (fun i => if i < k then q + i else X i) ∧ Turned B C w wr) (fun i _ _ => n - (intOf i).toNat)
  case atStart => exact ⟨0, Nat.zero_le _, rfl, by simp, hs.congr (fun i _ => by simp), Turned.refl _ _ _⟩
  case round =>
    obtain ⟨k, hk, rfl, rfl, hi, ht⟩ := hrel
    by_cases hlt : k < n
    · rcases hi with h | ⟨g, rfl, hB, hC, hg, hx⟩
      · omega
      have hc := (hx k hlt).1
      have hf := (hx k hlt).2
      have hlt' : (k : Int) < (n : Int) := by omega
      have HH : Hid (IntS wr B C (some ⟨g, 0, none⟩) n (fun i => if i < k then q + i else X i) ∧ Turned B C w wr) := ⟨Or.inr ⟨g, rfl, hB, hC, hg, hx⟩, ht⟩
      clear hx ht hs
      go_wp2
      go_roundw
      case rel =>
        refine ⟨k + 1, by omega, by go_num, by go_num, (HH.out.1.set hlt).congr (fun i hi => ?_), HH.out.2.set hB hC _⟩
        by_cases e : i = k
        · subst e; simp
        · by_cases e2 : i < k
          · rw [if_neg e, if_pos e2, if_pos (by omega)]
          · rw [if_neg e, if_neg e2, if_neg (by omega)]
      case measure => simp [intOf]; omega
    · have hkn : k = n := by omega
      subst hkn
      have HH : Hid (IntS wr B C a k (fun i => q + i) ∧ Turned B C w wr) := ⟨hi.congr (fun i h => by simp [h]), ht⟩
      clear hi ht hs
      go_wp2
      go_ret
      exact ⟨rfl, HH.out⟩

end Go.Proofs.YtkpobihpcnoemaaDoor
/- A list of numbers that stands through the calls of a law. -/
namespace Go.Proofs.YtkpobihpcnoemaaDoor
open Go.RowKit
set_option linter.unusedVariables false
def RowS (w : World) (B C : Nat) (a : Option Addr) (n : Nat) (X : Nat → Int) : Prop := IntS w B C a n X ∧ C ≤ w.heap.size
theorem RowS.next {w w' : World} {B C : Nat} {a : Option Addr} {n : Nat} {X : Nat → Int} (h : RowS w B C a n X) (hb : Below w.heap.size w w') : RowS w' B C a n X := ⟨h.1.below hb h.2, Nat.le_trans h.2 hb.size⟩
theorem RowS.turn {w w' : World} {B C B' C' : Nat} {a : Option Addr} {n : Nat} {X : Nat → Int} (h : RowS w B C a n X) (ht : Turned B' C' w w') (ha : C ≤ B' ∨ C' ≤ B) : RowS w' B C a n X := ⟨ht.ints h.1 ha, Nat.le_trans h.2 ht.2.2.2.1⟩
theorem RowS.sl {w : World} {B C : Nat} {a : Option Addr} {n : Nat} {X : Nat → Int} (h : RowS w B C a n X) : Sl w a n 1 (intF X) := h.1.sl
theorem RowS.of {w : World} {B : Nat} {a : Option Addr} {n : Nat} {X : Nat → Int} (h : IntS w B w.heap.size a n X) : RowS w B w.heap.size a n X := ⟨h, Nat.le_refl _⟩
/-- What came in is as it was. -/
theorem below_next {b w w' : World} (h : Below b.heap.size b w) (hb : Below w.heap.size w w') : Below b.heap.size b w' := h.trans (hb.mono h.size)
theorem below_turn {b w w' : World} {B C : Nat} (h : Below b.heap.size b w) (ht : Turned B C w w') (hB : b.heap.size ≤ B) : Below b.heap.size b w' := h.trans (ht.below hB h.size)
theorem Sl.kept {b w : World} {a : Option Addr} {n c : Nat} {F : Nat → Nat → Value} (h : Sl b a n c F) (hb : Below b.heap.size b w) : Sl w a n c F := h.below hb (Nat.le_refl _)
theorem Hid.intro {p : Prop} (h : p) : Hid p := h
/-- One cell that stands. -/
def BoxS (w : World) (g : Nat) (v : Value) : Prop := w.cell? ⟨g, 0, none⟩ = some v ∧ g < w.heap.size
theorem BoxS.next {w w' : World} {g : Nat} {v : Value} (h : BoxS w g v) (hb : Below w.heap.size w w') : BoxS w' g v := ⟨(hb.cell (p := ⟨g, 0, none⟩) h.2).trans h.1, Nat.lt_of_lt_of_le h.2 hb.size⟩
theorem BoxS.turn {w w' : World} {B C g : Nat} {v : Value} (h : BoxS w g v) (ht : Turned B C w w') (ha : g < B ∨ C ≤ g) : BoxS w' g v := ⟨(World.cell?_of_block (a := ⟨g, 0, none⟩) (ht.2.2.2.2 g h.2 ha)).trans h.1, Nat.lt_of_lt_of_le h.2 ht.2.2.2.1⟩
theorem BoxS.new (w : World) (v : Value) (t : TypeId) : BoxS (w.alloc (.cells #[v] t)) w.heap.size v := ⟨by simp, by simp⟩
/-- A draw leaves all as it is. -/
theorem below_drew (w : World) : Below w.heap.size w w.drew := (Below.refl _ _).drew
end Go.Proofs.YtkpobihpcnoemaaDoor
