/- Put together of: ShP, ShA, KeyI, HasI, GrG, Ng, SyG, ValI, GrI. -/
import Derived.Test.YtmhkfangfhanlaaMgA
import Derived.Test.YtmhkfangfhanlaaMgB
import Derived.Lib.OwnBridge
import Derived.Maps.AppendAt
import Derived.Laws.BitsLemmas
/- What the law's own functions on shapes answer. -/
namespace Go.Proofs.Ytmhkfangfhanlaa
open Go.RowKit
set_option linter.unusedVariables false

theorem Bx.newAt {w : World} {g : Nat} {vs : List Value} {t : TypeId} (h : w.heap.size = g) : Bx (w.alloc (.cells vs.toArray t)) g vs := h ▸ Bx.new w vs t
/-- A struct is made anew. -/
def ToP (s : Sh) (x : s.T) (w : World) (r : Ending) (w' : World) : Prop := ∃ cs : List Value, r = .returned (.agg cs.toArray) ∧ Own w' s cs x (Btw w.heap.size w'.heap.size) ∧ Below w.heap.size w w'
/-- A list is made anew. -/
def ToL (e : Sh) (l : List e.T) (w : World) (r : Ending) (w' : World) : Prop :=
  ∃ g, r = .returned (.slice (some ⟨g, 0, none⟩) l.length l.length) ∧ Own w' (.list e) [.slice (some ⟨g, 0, none⟩) l.length l.length] l (Btw w.heap.size w'.heap.size) ∧ Below w.heap.size w w'
end Go.Proofs.Ytmhkfangfhanlaa
/- A list of any shape that is being built by appends: each element's own lists lie in blocks of their own. -/
namespace Go.Proofs.Ytmhkfangfhanlaa
open Go.RowKit
set_option linter.unusedVariables false

theorem ownsRow_next {w w' : World} {base : Nat} {e : TypeId} {size : Nat} {v : Value} {n : Nat} {xs : List Value} (h : w.ownsRow base e size v n xs) (hb : Below w.heap.size w w') : w'.ownsRow base e size v n xs := by
  obtain ⟨h1, h2⟩ := h
  refine ⟨h1, ?_⟩
  rcases h2 with h2 | ⟨g, cap, cur, hv, hgb, hh, r⟩
  · exact Or.inl h2
  · refine Or.inr ⟨g, cap, cur, hv, hgb, ?_, r⟩
    rw [hb.block g (by rcases Nat.lt_or_ge g w.heap.size with q | q; (· exact q); rw [Array.getElem?_eq_none q] at hh; cases hh)]
    exact hh
theorem ownsRow_turn {w w' : World} {S : Nat → Prop} {base : Nat} {e : TypeId} {size : Nat} {v : Value} {n : Nat} {xs : List Value} (h : w.ownsRow base e size v n xs) (ht : TurnS S w w') (hx : ∀ k, v.ownBlock = some k → ¬ S k) : w'.ownsRow base e size v n xs := by
  obtain ⟨h1, h2⟩ := h
  refine ⟨h1, ?_⟩
  rcases h2 with h2 | ⟨g, cap, cur, hv, hgb, hh, r⟩
  · exact Or.inl h2
  · refine Or.inr ⟨g, cap, cur, hv, hgb, ?_, r⟩
    rw [ht.block (by rcases Nat.lt_or_ge g w.heap.size with q | q; (· exact q); rw [Array.getElem?_eq_none q] at hh; cases hh) (hx g (by rw [hv]; rfl))]
    exact hh
/-- The elements of such a list and their blocks. -/
def AppR (W : World) (lo : Nat) (e : Sh) (v : Value) (l : List e.T) (xs : List Value) (B : Nat → Nat → Prop) : Prop :=
  (∀ i (h : i < l.length), Own W e ((xs.drop (i * e.c)).take e.c) l[i] (B i)) ∧ (∀ i, i < l.length → ∀ b, B i b → lo ≤ b ∧ b < W.heap.size ∧ v.ownBlock ≠ some b) ∧ (∀ i j, i < j → j < l.length → ∀ b, B i b → ¬ B j b)
def AppB (W : World) (lo : Nat) (ty : TypeId) (e : Sh) (v : Value) (l : List e.T) : Prop := ∃ xs B, W.ownsRow lo ty e.c v l.length xs ∧ AppR W lo e v l xs B
theorem AppB.nil (W : World) (lo : Nat) (ty : TypeId) (e : Sh) : AppB W lo ty e (.slice none 0 0) [] :=
  ⟨[], fun _ _ => False, World.ownsRow_nil _ _ _ _, fun i h => absurd h (by simp), fun i h => absurd h (by simp), fun i j _ h => absurd h (by simp)⟩
theorem AppR.next {W W' : World} {lo : Nat} {e : Sh} {v : Value} {l : List e.T} {xs : List Value} {B : Nat → Nat → Prop} (h : AppR W lo e v l xs B) (hb : Below W.heap.size W W') : AppR W' lo e v l xs B :=
  ⟨fun i hi => (h.1 i hi).next hb, fun i hi b q => ⟨(h.2.1 i hi b q).1, Nat.lt_of_lt_of_le (h.2.1 i hi b q).2.1 hb.size, (h.2.1 i hi b q).2.2⟩, h.2.2⟩
theorem AppB.next {W W' : World} {lo : Nat} {ty : TypeId} {e : Sh} {v : Value} {l : List e.T} (h : AppB W lo ty e v l) (hb : Below W.heap.size W W') : AppB W' lo ty e v l := by
  obtain ⟨xs, B, h1, h2⟩ := h
  exact ⟨xs, B, ownsRow_next h1 hb, h2.next hb⟩
/-- One more element, whose lists were made since W0. -/
theorem AppR.app {W0 W W' : World} {lo : Nat} {ty : TypeId} {e : Sh} {v v' : Value} {l : List e.T} {xs ec : List Value} {B : Nat → Nat → Prop} {x : e.T} (h : AppR W0 lo e v l xs B) (ho : W0.ownsRow lo ty e.c v l.length xs) (hW : Below W0.heap.size W0 W)
    (hec : ec.length = e.c) (hlo : lo ≤ W0.heap.size) (hx : Own W e ec x (Btw W0.heap.size W.heap.size)) (h2 : W'.ownsRow lo ty e.c v' (l.length + 1) (xs ++ ec)) (hg : W.grownBy W' v.ownBlock) (hwh : v'.ownBlock = v.ownBlock ∨ v'.ownBlock = some W.heap.size) : AppB W' lo ty e v' (l ++ [x]) := by
  have hv : ∀ k, v.ownBlock = some k → k < W0.heap.size := fun k hk => (ho.lt k hk).2
  have hxl : xs.length = l.length * e.c := ho.1
  have hblk : ∀ k, k < W.heap.size → v.ownBlock ≠ some k → W'.heap[k]? = W.heap[k]? := fun k hk hne => hg.block k hk (fun q => hne q.symm)
  refine ⟨xs ++ ec, fun i => if i = l.length then Btw W0.heap.size W.heap.size else B i, by rw [List.length_append]; exact h2, fun i hi => ?_, fun i hi b q => ?_, fun i j hij hj b q => ?_⟩
  · rw [List.length_append, List.length_singleton] at hi
    by_cases ei : i = l.length
    · subst ei
      have e1 : ((xs ++ ec).drop (l.length * e.c)).take e.c = ec := by
        rw [← hxl, List.drop_left, ← hec, List.take_length]
      rw [e1]
      simp only [if_true, List.getElem_concat_length]
      exact hx.keep hg.size (fun k hk hB => hblk k hk (fun q => by have := hv k q; have := hB.1; omega))
    · have hil : i < l.length := by omega
      have e1 : ((xs ++ ec).drop (i * e.c)).take e.c = (xs.drop (i * e.c)).take e.c := by
        have := mul_step (c := e.c) hil
        rw [List.drop_append_of_le_length (by omega), List.take_append_of_le_length (by rw [List.length_drop]; omega)]
      rw [e1]
      simp only [if_neg ei]
      rw [List.getElem_append_left hil]
      exact ((h.1 i hil).next hW).keep hg.size (fun k hk hB => hblk k hk ((h.2.1 i hil k hB).2.2))
  · rw [List.length_append, List.length_singleton] at hi
    have hs := hW.size
    have hs' := hg.size
    by_cases ei : i = l.length
    · simp only [if_pos ei] at q
      refine ⟨by have := q.1; omega, by have := q.2; omega, ?_⟩
      rcases hwh with h | h
      · rw [h]; intro q2; have := hv b q2; have := q.1; omega
      · rw [h]; intro q2; have := Option.some.inj q2; have := q.2; omega
    · simp only [if_neg ei] at q
      have := h.2.1 i (by omega) b q
      refine ⟨this.1, by omega, ?_⟩
      rcases hwh with h | h
      · rw [h]; exact this.2.2
      · rw [h]; intro q2; have := Option.some.inj q2; omega
  · rw [List.length_append, List.length_singleton] at hj
    simp only [if_neg (show ¬ i = l.length by omega)] at q
    by_cases ej : j = l.length
    · simp only [if_pos ej]
      intro q2
      have := (h.2.1 i (by omega) b q).2.1
      have := q2.1
      omega
    · simp only [if_neg ej]
      exact h.2.2 i j hij (by omega) b q
theorem cells_of_take {xs : List Value} {c i j : Nat} (hj : j < c) : (((xs.drop (i * c)).take c)[j]?) = xs[i * c + j]? := by
  rw [List.getElem?_take, if_pos hj, List.getElem?_drop]
/-- Such a list is owned. -/
theorem AppB.own {W : World} {lo : Nat} {ty : TypeId} {e : Sh} {v : Value} {l : List e.T} (h : AppB W lo ty e v l) : ∃ a cap, v = .slice a l.length cap ∧ l.length ≤ cap ∧ Own W (.list e) [.slice a l.length cap] l (Btw lo W.heap.size) := by
  obtain ⟨xs, B, h1, h2⟩ := h
  rcases Nat.eq_zero_or_pos l.length with hz | hp
  · have hl := List.eq_nil_of_length_eq_zero hz
    subst hl
    obtain ⟨_, h | ⟨g, cap, cur, rfl, _, _, _, hm, _⟩⟩ := h1
    · exact ⟨none, 0, h.1, Nat.le_refl _, Own.none (Nat.zero_le _)⟩
    · exact ⟨_, cap, rfl, Nat.zero_le _, Own.none hm⟩
  obtain ⟨g, cap, rfl⟩ := Go.Joins.ownsRow_form h1 hp
  have hg := h1.lt g rfl
  have hxl : xs.length = l.length * e.c := h1.1
  have hcap : l.length ≤ cap ∧ cap ≤ maxLen := by
    obtain ⟨_, h | ⟨g', cap', cur, hv, _, _, hn, hm, _⟩⟩ := h1
    · exact absurd h.1 (by simp)
    · simp only [Value.slice.injEq, true_and] at hv
      rw [hv.2]; exact ⟨hn, hm⟩
  refine ⟨_, cap, rfl, hcap.1, OwnK.list (hc := hcap.1) (hm := hcap.2) (B := B) ⟨hg.2, ⟨hg.1, hg.2⟩, fun i hi b q => ⟨⟨(h2.2.1 i hi b q).1, (h2.2.1 i hi b q).2.1⟩, fun q2 => (h2.2.1 i hi b q).2.2 (by rw [q2]; rfl)⟩, h2.2.2, ?_, fun i hi _ => ⟨(xs.drop (i * e.c)).take e.c, ?_, fun j hj => ?_, h2.1 i hi⟩⟩⟩
  · intro q hq
    obtain ⟨hl, h | ⟨g', cap', cur, hv, hb, hh, hn, hm, hs, ht⟩⟩ := h1
    · exact absurd h.1 (by simp)
    · simp only [Value.slice.injEq, Option.some.injEq, Addr.mk.injEq, and_true, true_and] at hv
      obtain ⟨rfl, rfl⟩ := hv
      have hq' : q < cur.size := by rw [hs]; exact Nat.lt_of_lt_of_le hq (Nat.mul_le_mul_right _ hn)
      exact ⟨⟨cur[q], by rw [Go.Joins.cell_of_block hh]; simp [hq']⟩, Go.Joins.unfrozen_of_block hh q⟩
  · have := mul_step (c := e.c) hi
    rw [List.length_take, List.length_drop]; omega
  · have hm := mul_step (c := e.c) hi
    have hj' : j < e.c := by rw [List.length_take] at hj; omega
    rw [cells_of_take hj', World.ownsRow.cellAt h1 _ (by omega)]
theorem AppB.lo {W : World} {lo lo' : Nat} {ty : TypeId} {e : Sh} {v : Value} {l : List e.T} (h : AppB W lo ty e v l) (hl : lo' ≤ lo) : AppB W lo' ty e v l := by
  obtain ⟨xs, B, ⟨h0, h1⟩, h2⟩ := h
  refine ⟨xs, B, ⟨h0, ?_⟩, h2.1, fun i hi b q => ⟨Nat.le_trans hl (h2.2.1 i hi b q).1, (h2.2.1 i hi b q).2⟩, h2.2.2⟩
  rcases h1 with h1 | ⟨g, cap, cur, hv, hgb, r⟩
  · exact Or.inl h1
  · exact Or.inr ⟨g, cap, cur, hv, Nat.le_trans hl hgb, r⟩
end Go.Proofs.Ytmhkfangfhanlaa
/- The contracts of the tests on keys, on both sides. -/
namespace Go.Proofs.Ytmhkfangfhanlaa
open Go.RowKit
set_option linter.unusedVariables false

def keyB (c : UInt8) : Bool := (97 ≤ c && c ≤ 122) || (48 ≤ c && c ≤ 57)
def valB (c : UInt8) : Bool := 32 ≤ c && c ≤ 126 && c != 59
def allB (p : UInt8 → Bool) (s : ByteArray) : Bool := s.data.toList.all p
def keyOk (s : ByteArray) : Bool := inR s.size 1 8 && allB keyB s
def valOk (s : ByteArray) : Bool := decide (s.size ≤ 20) && allB valB s

theorem keyB_true {c : UInt8} (h : keyB c = true) : (97 ≤ (c.toNat : Int) ∧ (c.toNat : Int) ≤ 122) ∨ (48 ≤ (c.toNat : Int) ∧ (c.toNat : Int) ≤ 57) := by
  simp [keyB, UInt8.le_iff_toNat_le] at h; omega
theorem keyB_false {c : UInt8} (h : keyB c = false) : (c.toNat : Int) < 48 ∨ (57 < (c.toNat : Int) ∧ (c.toNat : Int) < 97) ∨ 122 < (c.toNat : Int) := by
  simp [keyB, UInt8.le_iff_toNat_le] at h; omega
theorem valB_true {c : UInt8} (h : valB c = true) : 32 ≤ (c.toNat : Int) ∧ (c.toNat : Int) ≤ 126 ∧ ((c.toNat : Int) == 59) = false := by
  simp [valB, UInt8.le_iff_toNat_le] at h
  refine ⟨by omega, by omega, ?_⟩
  simp
  intro e
  exact h.2 (UInt8.toNat_inj.1 (by simpa using (by omega : c.toNat = 59)))
theorem valB_false {c : UInt8} (h : valB c = false) : (c.toNat : Int) < 32 ∨ 126 < (c.toNat : Int) ∨ (32 ≤ (c.toNat : Int) ∧ (c.toNat : Int) ≤ 126 ∧ ((c.toNat : Int) == 59) = true) := by
  simp only [valB, UInt8.le_iff_toNat_le, Bool.and_eq_false_iff, decide_eq_false_iff_not] at h
  rcases h with (h | h) | h
  · left; simp at h; omega
  · right; left; simp at h; omega
  · have : c = 59 := by simpa using h
    subst this; right; right; simp
theorem allB_iff (p : UInt8 → Bool) (s : ByteArray) : allB p s = true ↔ ∀ i (h : i < s.size), p s[i] = true := by
  unfold allB
  rw [List.all_eq_true]
  constructor
  · intro h i hi
    exact h _ (by rw [← Array.mem_def]; exact Array.getElem_mem (xs := s.data) hi)
  · intro h x hx
    obtain ⟨i, hi, rfl⟩ := List.getElem_of_mem hx
    exact h i (by simpa using hi)
theorem upto_byte {p : UInt8 → Bool} {s : ByteArray} {k : Nat} (h : ∀ j (h : j < s.size), j < k → p s[j] = true) (hk : k < s.size) (hb : p s[k] = true) : ∀ j (h : j < s.size), j < k + 1 → p s[j] = true := by
  intro j hj hjk
  by_cases e : j < k
  · exact h j hj e
  · have e' : j = k := by omega
    subst e'
    exact hb
theorem allB_no {p : UInt8 → Bool} {s : ByteArray} {i : Nat} (h : i < s.size) (hp : p s[i] = false) : allB p s = false := by
  cases hb : allB p s
  · rfl
  · rw [(allB_iff p s).1 hb i h] at hp; cases hp





end Go.Proofs.Ytmhkfangfhanlaa
/- The contract of l1Has. -/
namespace Go.Proofs.Ytmhkfangfhanlaa
open Go.RowKit
set_option linter.unusedVariables false
/-- t is one of the first k. -/
def hasN (T : Nat → Int) (t : Int) : Nat → Bool
  | 0 => false
  | k + 1 => hasN T t k || T k == t
theorem hasN_iff {T : Nat → Int} {t : Int} : ∀ {k : Nat}, hasN T t k = true ↔ ∃ j, j < k ∧ T j = t
  | 0 => by simp [hasN]
  | k + 1 => by
    simp only [hasN, Bool.or_eq_true, hasN_iff (k := k), beq_iff_eq]
    constructor
    · rintro (⟨j, h1, h2⟩ | h)
      · exact ⟨j, by omega, h2⟩
      · exact ⟨k, by omega, h⟩
    · rintro ⟨j, h1, h2⟩
      by_cases e : j = k
      · subst e; exact Or.inr h2
      · exact Or.inl ⟨j, by omega, h2⟩
set_option maxHeartbeats 1000000 in
theorem l1Has_any (a : Option Addr) (n cap : Nat) (X : Nat → Int) (t : Int) (w : World) (hn : n ≤ 1073741824) (hs : Sl w a n 1 (intF X)) :
    Calls Try.prog 83 #[.slice a n cap, .int .i64 t] w fun r w' => r = .returned (.bool (hasN X t n)) ∧ w' = w := by
  have HS : Hid (Sl w a n 1 (intF X)) := hs
  clear hs
  go_enter Try.func83, Try.ntmps83
  go_wp2
  go_loop [9] (fun i => ∃ k : Nat, k ≤ n ∧ i = .int .i64 k ∧ hasN X t k = false) (fun i => n - (intOf i).toNat)
  case atStart => exact ⟨0, Nat.zero_le _, rfl, rfl⟩
  case round =>
    obtain ⟨k, hk, rfl, hall⟩ := hrel
    have HH : Hid (hasN X t k = false) := hall
    clear hall
    by_cases hlt : k < n
    · rcases HS.out with h | ⟨b, off, rfl, hbs, hE⟩
      · omega
      have hlt' : (k : Int) < (n : Int) := by omega
      have c0 := int_cell hE hlt
      clear hE
      cases hc : (X k == t)
      · go_wp2
        go_round
        case rel => exact ⟨k + 1, by omega, by go_num, by simp only [hasN, HH.out, hc]; rfl⟩
        case measure => simp [intOf]; omega
      · have HN : Hid (hasN X t n = true) := hasN_iff.2 ⟨k, hlt, by simpa using hc⟩
        go_wp2
        go_ret
        exact ⟨ret_bool HN.out.symm, rfl⟩
    · have hkn : k = n := by omega
      subst hkn
      go_wp2
      go_ret
      exact ⟨ret_bool HH.out.symm, rfl⟩
end Go.Proofs.Ytmhkfangfhanlaa
/- Groups: rising lists of numbers, and words of bits: mathematics. -/
namespace Go.Proofs.Ytmhkfangfhanlaa
open Go.RowKit
set_option linter.unusedVariables false

/-- n numbers that rise in 0..m-1, for m of 1..12. -/
def grP (X : Nat → Int) (m : Int) (n : Nat) : Prop := ∀ i, i < n → (0 ≤ X i ∧ X i ≤ m - 1) ∧ (0 < i → X (i - 1) < X i)
def grB (X : Nat → Int) (n : Nat) (m : Int) : Bool := decide ((1 ≤ m ∧ m ≤ 12) ∧ ∀ i, i < n → (0 ≤ X i ∧ X i ≤ m - 1) ∧ (0 < i → X (i - 1) < X i))
theorem grB_iff {X : Nat → Int} {n : Nat} {m : Int} : grB X n m = true ↔ (1 ≤ m ∧ m ≤ 12) ∧ grP X m n := by simp only [grB, decide_eq_true_eq, grP]
theorem grB_out {X : Nat → Int} {n : Nat} {m : Int} (h : ¬ (1 ≤ m ∧ m ≤ 12)) : grB X n m = false := by
  cases e : grB X n m
  · rfl
  · exact absurd (grB_iff.1 e).1 h
theorem grB_bad {X : Nat → Int} {n k : Nat} {m : Int} (hk : k < n) (h : ¬ ((0 ≤ X k ∧ X k ≤ m - 1) ∧ (0 < k → X (k - 1) < X k))) : grB X n m = false := by
  cases e : grB X n m
  · rfl
  · exact absurd ((grB_iff.1 e).2 k hk) h
theorem grP_succ {X : Nat → Int} {m : Int} {k : Nat} (h : grP X m k) (h1 : (0 ≤ X k ∧ X k ≤ m - 1) ∧ (0 < k → X (k - 1) < X k)) : grP X m (k + 1) := by
  intro i hi
  by_cases e : i = k
  · subst e; exact h1
  · exact h i (by omega)
theorem grP_rise {X : Nat → Int} {m : Int} {n : Nat} (h : grP X m n) : ∀ {i j : Nat}, i < j → j < n → X i < X j := by
  intro i j hij
  induction j with
  | zero => omega
  | succ j ih =>
    intro hj
    have h2 := (h (j + 1) hj).2 (by omega)
    simp only [Nat.add_sub_cancel] at h2
    by_cases e : i = j
    · subst e; exact h2
    · have := ih (by omega) (by omega); omega
theorem grP_inj {X : Nat → Int} {m : Int} {n : Nat} (h : grP X m n) {i j : Nat} (hi : i < n) (hj : j < n) (e : X i = X j) : i = j := by
  rcases Nat.lt_trichotomy i j with q | q | q
  · have := grP_rise h q hj; omega
  · exact q
  · have := grP_rise h q hi; omega
theorem grP_ge {X : Nat → Int} {m : Int} {n : Nat} (h : grP X m n) : ∀ {i : Nat}, i < n → (i : Int) ≤ X i
  | 0, hi => (h 0 hi).1.1
  | i + 1, hi => by
    have := grP_ge h (i := i) (by omega)
    have := (h (i + 1) hi).2 (by omega)
    simp only [Nat.add_sub_cancel] at this
    omega
theorem grP_len {X : Nat → Int} {m : Int} {n : Nat} (h : grP X m n) (hm : 1 ≤ m ∧ m ≤ 12) : (n : Int) ≤ m := by
  rcases Nat.eq_zero_or_pos n with e | e
  · subst e; omega
  · have h1 := grP_ge h (i := n - 1) (by omega)
    have h2 := (h (n - 1) (by omega)).1.2
    omega

/-- The word of the first k. -/
def wd (X : Nat → Int) : Nat → Nat
  | 0 => 0
  | k + 1 => wd X k ||| 2 ^ (X k).toNat
theorem wd_bit {X : Nat → Int} : ∀ {k : Nat}, (∀ i, i < k → 0 ≤ X i) → ∀ j : Nat, (wd X k).testBit j = true ↔ ∃ i, i < k ∧ X i = (j : Int)
  | 0, _, j => by simp [wd]
  | k + 1, h, j => by
    have h0 := h k (by omega)
    rw [wd, Nat.testBit_or, Bool.or_eq_true, wd_bit (k := k) (fun i hi => h i (by omega)) j, Nat.testBit_two_pow]
    constructor
    · rintro (⟨i, hi, e⟩ | e)
      · exact ⟨i, by omega, e⟩
      · have e := of_decide_eq_true e
        exact ⟨k, by omega, by omega⟩
    · rintro ⟨i, hi, e⟩
      by_cases q : i = k
      · subst q; exact Or.inr (decide_eq_true (by omega))
      · exact Or.inl ⟨i, by omega, e⟩
theorem wd_lt {X : Nat → Int} : ∀ {k : Nat}, (∀ i, i < k → 0 ≤ X i ∧ X i ≤ 11) → wd X k < 4096
  | 0, _ => by simp [wd]
  | k + 1, h => by
    have h0 := h k (by omega)
    refine Nat.or_lt_two_pow (n := 12) (wd_lt (k := k) (fun i hi => h i (by omega))) ?_
    exact Nat.pow_lt_pow_right (by omega) (by omega)
theorem gr_in {X : Nat → Int} {m : Int} {n : Nat} (h : grP X m n) (hm : m ≤ 12) : ∀ i, i < n → 0 ≤ X i ∧ X i ≤ 11 := fun i hi => by have := (h i hi).1; omega
theorem wd_has {X : Nat → Int} {k : Nat} (h : ∀ i, i < k → 0 ≤ X i) (j : Nat) : (wd X k).testBit j = hasN X j k := by
  rw [Bool.eq_iff_iff, wd_bit h, hasN_iff]

/-- The bits of a word among the first k, as a list. -/
def bitsTo (s : Nat) : Nat → List Nat
  | 0 => []
  | k + 1 => bitsTo s k ++ (if s.testBit k then [k] else [])
theorem bitsTo_mem {s : Nat} : ∀ {k j : Nat}, j ∈ bitsTo s k ↔ j < k ∧ s.testBit j = true
  | 0, j => by simp [bitsTo]
  | k + 1, j => by
    rw [bitsTo, List.mem_append, bitsTo_mem (k := k)]
    cases e : s.testBit k
    · simp only [Bool.false_eq_true, if_false, List.not_mem_nil, or_false]
      constructor
      · rintro ⟨a, b⟩; exact ⟨by omega, b⟩
      · rintro ⟨a, b⟩
        by_cases q : j = k
        · subst q; rw [e] at b; cases b
        · exact ⟨by omega, b⟩
    · simp only [if_true, List.mem_singleton]
      constructor
      · rintro (⟨a, b⟩ | rfl)
        · exact ⟨by omega, b⟩
        · exact ⟨by omega, e⟩
      · rintro ⟨a, b⟩
        by_cases q : j = k
        · exact Or.inr q
        · exact Or.inl ⟨by omega, b⟩
theorem bitsTo_len (s : Nat) : ∀ k, (bitsTo s k).length ≤ k
  | 0 => Nat.le_refl _
  | k + 1 => by
    rw [bitsTo, List.length_append]
    have := bitsTo_len s k
    split <;> simp <;> omega
theorem bitsTo_rise (s : Nat) : ∀ k, (bitsTo s k).Pairwise (· < ·)
  | 0 => List.Pairwise.nil
  | k + 1 => by
    rw [bitsTo, List.pairwise_append]
    refine ⟨bitsTo_rise s k, ?_, ?_⟩
    · split <;> simp
    · intro a ha b hb
      have := (bitsTo_mem.1 ha).1
      split at hb <;> simp at hb
      omega

/-- A list as numbers that are asked by place. -/
def atL (L : List Nat) (i : Nat) : Int := ((L.getD i 0 : Nat) : Int)
theorem atL_lt {L : List Nat} {i : Nat} (h : i < L.length) : atL L i = ((L[i] : Nat) : Int) := by simp [atL, List.getD_eq_getElem?_getD, List.getElem?_eq_getElem h]
theorem hasN_atL {L : List Nat} {j : Nat} : hasN (atL L) (j : Int) L.length = true ↔ j ∈ L := by
  rw [hasN_iff, List.mem_iff_getElem]
  constructor
  · rintro ⟨i, hi, e⟩
    rw [atL_lt hi] at e
    exact ⟨i, hi, by omega⟩
  · rintro ⟨i, hi, e⟩
    exact ⟨i, hi, by rw [atL_lt hi]; omega⟩
/-- Two rising lists of the same members are the same. -/
theorem rise_ext : ∀ {A B : List Nat}, A.Pairwise (· < ·) → B.Pairwise (· < ·) → (∀ j, j ∈ A ↔ j ∈ B) → A = B
  | [], [], _, _, _ => rfl
  | [], b :: B, _, _, h => absurd ((h b).2 (List.mem_cons_self ..)) (by simp)
  | a :: A, [], _, _, h => absurd ((h a).1 (List.mem_cons_self ..)) (by simp)
  | a :: A, b :: B, ha, hb, h => by
    rw [List.pairwise_cons] at ha hb
    have e : a = b := by
      have h1 := (h a).1 (List.mem_cons_self ..)
      have h2 := (h b).2 (List.mem_cons_self ..)
      rcases List.mem_cons.1 h1 with q | q
      · exact q
      rcases List.mem_cons.1 h2 with r | r
      · exact r.symm
      · have := hb.1 a q; have := ha.1 b r; omega
    subst e
    rw [rise_ext ha.2 hb.2]
    intro j
    constructor
    · intro hj
      rcases List.mem_cons.1 ((h j).1 (List.mem_cons_of_mem _ hj)) with q | q
      · subst q; have := ha.1 j hj; omega
      · exact q
    · intro hj
      rcases List.mem_cons.1 ((h j).2 (List.mem_cons_of_mem _ hj)) with q | q
      · subst q; have := hb.1 j hj; omega
      · exact q
end Go.Proofs.Ytmhkfangfhanlaa
/- Propositions as Bools, lists of numbers in shapes, small facts on lists: for every chapter with shapes. No Go text is spoken of here. -/
namespace Go.Proofs.Ytmhkfangfhanlaa
open Go.RowKit
set_option linter.unusedVariables false

/-- A proposition as a Bool. -/
noncomputable def tf (p : Prop) : Bool := @decide p (Classical.propDecidable p)
theorem tf_iff {p : Prop} : tf p = true ↔ p := by unfold tf; exact @decide_eq_true_iff p (Classical.propDecidable p)
theorem tf_yes {p : Prop} (h : p) : tf p = true := tf_iff.2 h
theorem tf_no {p : Prop} (h : ¬ p) : tf p = false := by cases e : tf p with | false => rfl | true => exact absurd (tf_iff.1 e) h
theorem tf_eq {p q : Prop} (h : p ↔ q) : tf p = tf q := by
  by_cases hq : q
  · rw [tf_yes hq, tf_yes (h.2 hq)]
  · rw [tf_no hq, tf_no (fun hp => hq (h.1 hp))]
theorem tf_bool {b : Bool} : tf (b = true) = b := by cases b; exact tf_no (by simp); exact tf_yes rfl

def atI (l : List Int) (i : Nat) : Int := l.getD i 0
theorem atI_lt {l : List Int} {i : Nat} (h : i < l.length) : atI l i = l[i] := by simp [atI, List.getD_eq_getElem?_getD, List.getElem?_eq_getElem h]
/-- A list of numbers, as the elder texts speak of it. -/
theorem lies_sl {w : World} {a : Option Addr} {cap : Nat} {l : List (Sh.T .int)} (h : Lies w (.list .int) [.slice a l.length cap] l) : Sl w a l.length 1 (intF (atI l)) := by
  obtain ⟨ad, c, e1, _, _, h⟩ := h
  simp only [List.cons.injEq, Value.slice.injEq, and_true, true_and] at e1
  obtain ⟨rfl, rfl⟩ := e1
  rcases h with h | ⟨g, off, e2, hg, hE⟩
  · exact Or.inl (by rw [h]; rfl)
  · refine Or.inr ⟨g, off, e2, hg, fun i hi j hj => ?_⟩
    have hj0 : j = 0 := by omega
    subst hj0
    obtain ⟨ec, h1, h2, h3⟩ := hE i hi
    have h3 : ec = [.int .i64 l[i]] := h3
    subst h3
    have := h2 0 (by simp)
    simp only [Sh.c, Nat.add_zero] at this
    rw [Nat.add_zero, this]
    simp [intF, atI_lt hi]
theorem Lies.take {w : World} {e : Sh} {a : Option Addr} {n cap : Nat} {l : List e.T} (h : Lies w (.list e) [.slice a n cap] l) (k : Nat) (hk : k ≤ l.length) : Lies w (.list e) [.slice a k cap] (l.take k) := by
  obtain ⟨ad, c, e1, c1, c2, h⟩ := h
  simp only [List.cons.injEq, Value.slice.injEq, and_true] at e1
  obtain ⟨rfl, rfl, rfl⟩ := e1
  have hl : (l.take k).length = k := by rw [List.length_take]; omega
  refine ⟨a, cap, by rw [hl], by omega, c2, ?_⟩
  rcases h with h | ⟨g, off, e2, hg, hE⟩
  · left; rw [h]; simp
  · right
    refine ⟨g, off, e2, hg, fun i hi => ?_⟩
    obtain ⟨ec, h1, h2, h3⟩ := hE i (by omega)
    exact ⟨ec, h1, h2, by rw [List.getElem_take]; exact h3⟩

theorem mem_take_succ {α : Type} {l : List α} {k : Nat} (h : k < l.length) {P : α → Prop} (h1 : ∀ o ∈ l.take k, P o) (h2 : P l[k]) : ∀ o ∈ l.take (k + 1), P o := by
  rw [List.take_succ_eq_append_getElem h]
  intro o ho
  rcases List.mem_append.1 ho with q | q
  · exact h1 o q
  · rw [List.mem_singleton.1 q]; exact h2
theorem pair_take_succ {α : Type} {l : List α} {k : Nat} (h : k < l.length) {R : α → α → Prop} (h1 : (l.take k).Pairwise R) (h2 : ∀ o ∈ l.take k, R o l[k]) : (l.take (k + 1)).Pairwise R := by
  rw [List.take_succ_eq_append_getElem h, List.pairwise_append]
  exact ⟨h1, List.pairwise_singleton _ _, fun a ha b hb => by rw [List.mem_singleton.1 hb]; exact h2 a ha⟩
theorem pair_take_no {α : Type} {l : List α} {k : Nat} (h : k < l.length) {R : α → α → Prop} {o : α} (ho : o ∈ l.take k) (hn : ¬ R o l[k]) : ¬ l.Pairwise R := by
  intro hp
  have := hp.sublist (List.take_sublist (k + 1) l)
  rw [List.take_succ_eq_append_getElem h, List.pairwise_append] at this
  exact hn (this.2.2 o ho _ (List.mem_singleton.2 rfl))
theorem emptyB_size (s : ByteArray) : s.toList.isEmpty = (s.size == 0) := by
  rw [ByteArray.toList_eq]
  cases h : s.data.toList with
  | nil => have : s.size = 0 := by have := congrArg List.length h; simpa using this
           simp [this]
  | cons a l => have : s.size = l.length + 1 := by have := congrArg List.length h; simpa using this
                simp [this]
theorem empty_iff {v : ByteArray} : v.toList.isEmpty = true ↔ v.size = 0 := by rw [emptyB_size]; simp
theorem Bx.grow {w w' : World} {row : Option Nat} {g : Nat} {vs : List Value} (h : Bx w g vs) (hg : w.grownBy w' row) (hne : some g ≠ row) : Bx w' g vs :=
  ⟨fun j hj => ⟨(hg.cell_far ⟨g, j, none⟩ h.2 hne).trans (h.1 j hj).1, (hg.frozen_far ⟨g, j, none⟩ h.2 hne).trans (h.1 j hj).2⟩, Nat.lt_of_lt_of_le h.2 hg.size⟩
theorem size_text {n : Nat} (h : n ≤ 1073741824) : n ≤ maxLen := by unfold maxLen; omega
theorem below_dN {B : Nat} {a w : World} (h : Below B a w) (n : Nat) : Below B a (w.drewN n) := ⟨h.os, h.tape, h.output, h.size, h.block⟩
end Go.Proofs.Ytmhkfangfhanlaa
/- Synods: what a good one is. Mathematics alone. -/
namespace Go.Proofs.Ytmhkfangfhanlaa
open Go.RowKit
set_option linter.unusedVariables false

/-- A promise's node, ballot, value. -/
def pnd (x : Sh.T shPromise) : Int := x.1
def pbl (x : Sh.T shPromise) : Int := x.2.1
def pvl (x : Sh.T shPromise) : ByteArray := x.2.2.1
/-- A ballot, or 0 for none, and a value that may have been accepted. -/
def oldP (b g : Int) (v : ByteArray) : Prop := (0 ≤ b ∧ b ≤ g) ∧ valOk v = true ∧ (0 < b ∨ v.size = 0)
def accQ (np p b : Int) (v : ByteArray) : Prop := (0 ≤ p ∧ p ≤ np) ∧ oldP b p v
def accP (np : Int) (a : Sh.T shAcceptor) : Prop := accQ np a.1 a.2.1 a.2.2.1
def prmP (bal nc : Int) (x : Sh.T shPromise) : Prop := (0 ≤ pnd x ∧ pnd x ≤ nc - 1) ∧ oldP (pbl x) (bal - 1) (pvl x)
/-- Promises rise by their nodes. -/
def prsP (bal nc : Int) (l : List (Sh.T shPromise)) : Prop := (∀ x ∈ l, prmP bal nc x) ∧ l.Pairwise (fun x y => pnd x < pnd y)
/-- The value of the greatest ballot that was told of, and that ballot. -/
def fixS (s : Int × ByteArray) (x : Sh.T shPromise) : Int × ByteArray := if s.1 < pbl x then (pbl x, pvl x) else s
def fixF (own : ByteArray) (l : List (Sh.T shPromise)) : Int × ByteArray := l.foldl fixS (0, own)
def fixV (own : ByteArray) (l : List (Sh.T shPromise)) : ByteArray := (fixF own l).2
theorem fix_take {own : ByteArray} {l : List (Sh.T shPromise)} {k : Nat} (h : k < l.length) : fixF own (l.take (k + 1)) = fixS (fixF own (l.take k)) l[k] := by
  unfold fixF; rw [List.take_succ_eq_append_getElem h, List.foldl_append]; rfl
def risP (l : List Int) (m : Int) : Prop := grP (atI l) m l.length
def proQ (bal nc : Int) (own : ByteArray) (ps : List (Sh.T shPromise)) (fx : Bool) (v : ByteArray) (vt : List Int) : Prop :=
  valOk own = true ∧ prsP bal nc ps ∧ fx = decide (nc < 2 * (ps.length : Int)) ∧ (fx = true → v = fixV own ps) ∧ (fx = false → v.size = 0 ∧ vt.length = 0) ∧ risP vt nc
def proP (bal nc : Int) (p : Sh.T shProposer) : Prop := proQ bal nc p.1 p.2.1 p.2.2.1 p.2.2.2.1 p.2.2.2.2.1
/-- The first k proposers are good. -/
def proK (nc : Int) (ps : List (Sh.T shProposer)) (k : Nat) : Prop := ∀ i (h : i < ps.length), i < k → proP ((i : Int) + 1) nc ps[i]
theorem proK_succ {nc : Int} {ps : List (Sh.T shProposer)} {k : Nat} (hk : k < ps.length) (h : proK nc ps k) (h1 : proP ((k : Int) + 1) nc ps[k]) : proK nc ps (k + 1) := by
  intro i hi hik
  by_cases e : i = k
  · subst e; exact h1
  · exact h i hi (by omega)
def goodS (ac : List (Sh.T shAcceptor)) (ps : List (Sh.T shProposer)) : Prop :=
  (1 ≤ ac.length ∧ ac.length ≤ 12) ∧ (1 ≤ ps.length ∧ ps.length ≤ 8) ∧ (∀ a ∈ ac, accP ps.length a) ∧ proK ac.length ps ps.length
theorem goodS_none {ac : List (Sh.T shAcceptor)} {ps : List (Sh.T shProposer)} (h : ¬ goodS ac ps) : Ending.returned (.bool false) = .returned (.bool (tf (goodS ac ps))) := by rw [tf_no h]
theorem goodS_yes {ac : List (Sh.T shAcceptor)} {ps : List (Sh.T shProposer)} (h : goodS ac ps) : Ending.returned (.bool true) = .returned (.bool (tf (goodS ac ps))) := by rw [tf_yes h]
/-- Promises of the first k, as a loop has seen them. -/
theorem prs_zero {bal nc : Int} {l : List (Sh.T shPromise)} : prsP bal nc (l.take 0) := by unfold prsP; simp
theorem prs_succ {bal nc : Int} {l : List (Sh.T shPromise)} {k : Nat} (h : k < l.length) (hp : prsP bal nc (l.take k)) (h1 : prmP bal nc l[k]) (h2 : ∀ x ∈ l.take k, pnd x < pnd l[k]) : prsP bal nc (l.take (k + 1)) :=
  ⟨mem_take_succ h hp.1 h1, pair_take_succ (R := fun (x y : Sh.T shPromise) => pnd x < pnd y) h hp.2 h2⟩
/-- The least node that the next promise may have. -/
def ndsP (l : List (Sh.T shPromise)) : List Int := l.map pnd
theorem nds_at {l : List (Sh.T shPromise)} {i : Nat} (h : i < l.length) : atI (ndsP l) i = pnd l[i] := by
  rw [atI_lt (by unfold ndsP; rw [List.length_map]; exact h)]; unfold ndsP; rw [List.getElem_map]
theorem last_take {α : Type} {l : List α} {k : Nat} (hk : k < l.length) : l.take (k + 1) = l.take k ++ [l[k]] := List.take_succ_eq_append_getElem hk
theorem last_mem {α : Type} {l : List α} {k : Nat} (hk : k < l.length) : l[k] ∈ l.take (k + 1) := by rw [last_take hk]; exact List.mem_append_right _ (List.mem_singleton.2 rfl)
def lstP (l : List (Sh.T shPromise)) : Nat → Int
  | 0 => 0
  | k + 1 => atI (ndsP l) k + 1
theorem lst_succ {l : List (Sh.T shPromise)} {k : Nat} (hk : k < l.length) : lstP l (k + 1) = pnd l[k] + 1 := by
  show atI (ndsP l) k + 1 = _
  rw [nds_at hk]
theorem lst_all {bal nc : Int} {l : List (Sh.T shPromise)} {k : Nat} (hk : k ≤ l.length) (hp : prsP bal nc (l.take k)) : ∀ x ∈ l.take k, pnd x < lstP l k := by
  intro x hx
  cases k with
  | zero => simp at hx
  | succ k =>
    have hk1 : k < l.length := by omega
    have hpw := hp.2
    rw [lst_succ hk1]
    rw [last_take hk1, List.pairwise_append] at hpw
    rw [last_take hk1] at hx
    rcases List.mem_append.1 hx with q | q
    · have := hpw.2.2 x q _ (List.mem_singleton.2 rfl)
      omega
    · rw [List.mem_singleton.1 q]; omega
theorem lst_zero (l : List (Sh.T shPromise)) : lstP l 0 = 0 := rfl
theorem lst_bd {bal nc : Int} {l : List (Sh.T shPromise)} {k : Nat} (hk : k ≤ l.length) (hp : prsP bal nc (l.take k)) (hnc : 0 ≤ nc) : 0 ≤ lstP l k ∧ lstP l k ≤ nc := by
  cases k with
  | zero => rw [lst_zero]; omega
  | succ k =>
    have hk1 : k < l.length := by omega
    rw [lst_succ hk1]
    have := (hp.1 _ (last_mem hk1)).1
    omega
theorem lst_in {bal nc : Int} {l : List (Sh.T shPromise)} {k : Nat} (hk : k < l.length) (hp : prsP bal nc (l.take k)) : (inR (pnd l[k]) (lstP l k) (nc - 1) = true) ↔ ((0 ≤ pnd l[k] ∧ pnd l[k] ≤ nc - 1) ∧ ∀ x ∈ l.take k, pnd x < pnd l[k]) := by
  rw [inR_iff]
  constructor
  · rintro ⟨h1, h2⟩
    refine ⟨⟨?_, h2⟩, fun x hx => ?_⟩
    · have : 0 ≤ lstP l k := by
        cases k with
        | zero => exact Int.le_refl _
        | succ k =>
          have hk1 : k < l.length := by omega
          rw [lst_succ hk1]
          have := (hp.1 _ (last_mem hk1)).1
          omega
      omega
    · have := lst_all (by omega) hp x hx
      omega
  · rintro ⟨⟨h1, h2⟩, h3⟩
    refine ⟨?_, h2⟩
    cases k with
    | zero => exact h1
    | succ k =>
      have hk1 : k < l.length := by omega
      rw [lst_succ hk1]
      have := h3 _ (last_mem hk1)
      omega
theorem prs_pre {bal nc : Int} {l : List (Sh.T shPromise)} (h : prsP bal nc l) (k : Nat) (hk : k < l.length) : prmP bal nc l[k] ∧ ∀ x ∈ l.take k, pnd x < pnd l[k] := by
  refine ⟨h.1 _ (List.getElem_mem hk), fun x hx => ?_⟩
  have hp := h.2.sublist (List.take_sublist (k + 1) l)
  rw [List.take_succ_eq_append_getElem hk, List.pairwise_append] at hp
  exact hp.2.2 x hx _ (List.mem_singleton.2 rfl)
/-- Sizes of what is in a synod. -/
theorem syn_sizes {ac : List (Sh.T shAcceptor)} {ps : List (Sh.T shProposer)} (hz : szD shSynod (ac, ps, ()) ≤ 1073741824) :
    (∀ a ∈ ac, a.2.2.1.size ≤ 1073741824) ∧ (∀ p ∈ ps, p.1.size ≤ 1073741824 ∧ szD (.list shPromise) p.2.1 ≤ 1073741824 ∧ p.2.2.2.1.size ≤ 1073741824 ∧ p.2.2.2.2.1.length ≤ 1073741824) ∧ ac.length ≤ 1073741824 ∧ ps.length ≤ 1073741824 := by
  have e : szD shSynod (ac, ps, ()) = szD (.list shAcceptor) ac + (szD (.list shProposer) ps + 0) := rfl
  have e1 : szD (.list shAcceptor) ac = ac.length + (ac.map (szD shAcceptor)).sum := rfl
  have e2 : szD (.list shProposer) ps = ps.length + (ps.map (szD shProposer)).sum := rfl
  refine ⟨fun c hc => ?_, fun o ho => ?_, by omega, by omega⟩
  · have := sz_mem hc
    have e3 : szD shAcceptor c = 0 + (0 + (c.2.2.1.size + 0)) := rfl
    omega
  · have := sz_mem ho
    have e3 : szD shProposer o = o.1.size + (szD (.list shPromise) o.2.1 + (0 + (o.2.2.2.1.size + (szD (.list .int) o.2.2.2.2.1 + 0)))) := rfl
    have e4 : szD (.list .int) o.2.2.2.2.1 = o.2.2.2.2.1.length + (o.2.2.2.2.1.map (szD .int)).sum := rfl
    omega
theorem pms_sizes {l : List (Sh.T shPromise)} (hz : szD (.list shPromise) l ≤ 1073741824) : (∀ x ∈ l, x.2.2.1.size ≤ 1073741824) ∧ l.length ≤ 1073741824 := by
  have e1 : szD (.list shPromise) l = l.length + (l.map (szD shPromise)).sum := rfl
  refine ⟨fun c hc => ?_, by omega⟩
  have := sz_mem hc
  have e3 : szD shPromise c = 0 + (0 + (c.2.2.1.size + 0)) := rfl
  omega
end Go.Proofs.Ytmhkfangfhanlaa
/- The contracts of the tests on values, on both sides, beside those on keys (TvI without tids). -/
namespace Go.Proofs.Ytmhkfangfhanlaa
open Go.RowKit
set_option linter.unusedVariables false

set_option maxHeartbeats 1000000 in
theorem l1Value_any (s : ByteArray) (w : World) (hs : s.size ≤ maxLen) :
    Calls Try.prog 60 #[.string s] w fun r w' => r = .returned (.bool (valOk s)) ∧ w' = w := by
  unfold maxLen at hs
  go_enter Try.func60, Try.ntmps60
  go_wp2
  go_loop [3] (fun i => ∃ k : Nat, k ≤ s.size ∧ i = .int .i64 k ∧ ∀ j (h : j < s.size), j < k → valB s[j] = true) (fun i => s.size - (intOf i).toNat)
  case atStart => exact ⟨0, Nat.zero_le _, rfl, fun j _ h => absurd h (by omega)⟩
  case round =>
    obtain ⟨k, hk, rfl, hall⟩ := hrel
    have HA : Hid (∀ j (h : j < s.size), j < k → valB s[j] = true) := hall
    clear hall
    by_cases hlt : k < s.size
    · cases hb : valB s[k]
      · have HN : Hid (valOk s = false) := by show valOk s = false; simp [valOk, allB_no hlt hb]
        rcases valB_false hb with h | h | ⟨h, h', h''⟩
        all_goals
          clear hb
          go_wp2
          go_ret
          exact ⟨ret_bool HN.out.symm, rfl⟩
      · have HB : Hid (valB s[k] = true) := hb
        obtain ⟨h, h', h''⟩ := valB_true hb
        all_goals
          clear hb
          go_wp2
          go_round
          case rel => exact ⟨k + 1, by omega, by go_num, upto_byte HA.out hlt HB.out⟩
          case measure => simp [intOf]; omega
    · have HN : Hid (valOk s = decide (s.size ≤ 20)) := by
        show valOk s = decide (s.size ≤ 20)
        have : allB valB s = true := (allB_iff _ _).2 fun i hi => HA.out i hi (by omega)
        simp [valOk, this]
      go_wp2
      go_ret
      exact ⟨ret_bool (by rw [HN.out]; simp; omega), rfl⟩

set_option maxHeartbeats 1000000 in
theorem isValue_any (s : ByteArray) (w : World) (hs : s.size ≤ maxLen) :
    Calls Try.prog 62 #[.string s] w fun r w' => r = .returned (.bool (valOk s)) ∧ w' = w := by
  unfold maxLen at hs
  by_cases hr : s.size ≤ 20
  case neg =>
    have HN : Hid (valOk s = false) := by show valOk s = false; simp [valOk]; omega
    have h8 : (20 : Int) < (s.size : Int) := by omega
    go_enter Try.func62, Try.ntmps62
    go_wp2
    go_ret
    exact ⟨ret_bool HN.out.symm, rfl⟩
  case pos =>
  have h8 : ¬ (20 : Int) < (s.size : Int) := by omega
  go_enter Try.func62, Try.ntmps62
  go_wp2
  go_loop [10] (fun i => ∃ k : Nat, k ≤ s.size ∧ i = .int .i64 k ∧ ∀ j (h : j < s.size), j < k → valB s[j] = true) (fun i => s.size - (intOf i).toNat)
  case atStart => exact ⟨0, Nat.zero_le _, rfl, fun j _ h => absurd h (by omega)⟩
  case round =>
    obtain ⟨k, hk, rfl, hall⟩ := hrel
    have HA : Hid (∀ j (h : j < s.size), j < k → valB s[j] = true) := hall
    clear hall
    by_cases hlt : k < s.size
    · cases hb : valB s[k]
      · have HN : Hid (valOk s = false) := by show valOk s = false; simp [valOk, allB_no hlt hb]
        rcases valB_false hb with h | h | ⟨h, h', h''⟩
        all_goals
          clear hb
          go_wp2
          go_ret
          exact ⟨ret_bool HN.out.symm, rfl⟩
      · have HB : Hid (valB s[k] = true) := hb
        obtain ⟨h, h', h''⟩ := valB_true hb
        all_goals
          clear hb
          go_wp2
          go_round
          case rel => exact ⟨k + 1, by omega, by go_num, upto_byte HA.out hlt HB.out⟩
          case measure => simp [intOf]; omega
    · have HN : Hid (valOk s = true) := by
        show valOk s = true
        have : allB valB s = true := (allB_iff _ _).2 fun i hi => HA.out i hi (by omega)
        simp [valOk, this]; omega
      go_wp2
      go_ret
      exact ⟨ret_bool HN.out.symm, rfl⟩
end Go.Proofs.Ytmhkfangfhanlaa
/- The contracts of has, with, setFrom, GoodGroup, IsMajority, on both sides. -/
namespace Go.Proofs.Ytmhkfangfhanlaa
open Go.RowKit
set_option linter.unusedVariables false

theorem wraps_u16 (n : Int) (h0 : 0 ≤ n) (h1 : n < 2 ^ 16) : IntKind.u16.wrap n = n := by
  have e : IntKind.u16.wrap n = n % 65536 := by simp [IntKind.wrap, IntKind.bits, IntKind.signed]
  rw [e]; omega
theorem and_u16 (a b : Nat) (ha : a < 65536) (hb : b < 65536) : bits .and .u16 (a : Int) (b : Int) = ((a &&& b : Nat) : Int) := (bits_nat .u16 16 (by decide) wraps_u16 a b ha hb).1
theorem or_u16 (a b : Nat) (ha : a < 65536) (hb : b < 65536) : bits .or .u16 (a : Int) (b : Int) = ((a ||| b : Nat) : Int) := (bits_nat .u16 16 (by decide) wraps_u16 a b ha hb).2
theorem has_bit (s j : Nat) (hs : s < 65536) : (bits .and .u16 ((s : Int) / 2 ^ j) 1 == 1) = s.testBit j := by
  have e : ((s : Int) / 2 ^ j) = ((s / 2 ^ j : Nat) : Int) := by simp
  have hl : s / 2 ^ j < 65536 := Nat.lt_of_le_of_lt (Nat.div_le_self _ _) hs
  rw [e, show (1 : Int) = ((1 : Nat) : Int) from rfl, and_u16 _ _ hl (by decide), Nat.and_one_is_mod, Nat.testBit_eq_decide_div_mod_eq, Bool.eq_iff_iff]
  simp only [beq_iff_eq, decide_eq_true_eq]
  omega
theorem with_bit (s j : Nat) (hs : s < 65536) (hj : j < 16) : bits .or .u16 (s : Int) (IntKind.u16.wrap (1 * 2 ^ j)) = ((s ||| 2 ^ j : Nat) : Int) := by
  have hp : 2 ^ j < 65536 := Nat.pow_lt_pow_right (a := 2) (n := 16) (by omega) hj
  have e : (1 * 2 ^ j : Int) = ((2 ^ j : Nat) : Int) := by simp
  rw [e, wraps_u16 _ (Int.natCast_nonneg _) (by exact_mod_cast hp), or_u16 _ _ hs hp]



set_option maxHeartbeats 400000 in
theorem with_any (s j : Nat) (w : World) (hs : s < 65536) (hj : j < 16) :
    Calls Try.prog 128 #[.int .u16 s, .int .i64 j] w fun e w' => e = .returned (.int .u16 ((s ||| 2 ^ j : Nat) : Int)) ∧ w' = w := by
  have HE : Hid (bits .or .u16 (s : Int) (IntKind.u16.wrap (1 * 2 ^ j)) = ((s ||| 2 ^ j : Nat) : Int)) := with_bit s j hs hj
  go_enter Try.func128, Try.ntmps128
  go_wp2
  go_ret
  refine ⟨?_, rfl⟩
  have := HE.out
  simpa using this

theorem ret2 {a b c d : Value} (h : a = c) (k : b = d) : Ending.returned (.tuple #[a, b]) = .returned (.tuple #[c, d]) := by rw [h, k]
/-- The word of a good group, 0 of any other one. -/
def grW (X : Nat → Int) (n : Nat) (m : Int) : Nat := if grB X n m then wd X n else 0
theorem grW_lt {X : Nat → Int} {n : Nat} {m : Int} : grW X n m < 4096 := by
  unfold grW
  split
  case isTrue h => exact wd_lt (gr_in (grB_iff.1 h).2 (grB_iff.1 h).1.2)
  case isFalse => omega
def SfPost (X : Nat → Int) (n : Nat) (m : Int) (w : World) (r : Ending) (w' : World) : Prop := r = .returned (.tuple #[.int .u16 (grW X n m : Nat), .bool (grB X n m)]) ∧ Below w.heap.size w w'
theorem sf_no {X : Nat → Int} {n : Nat} {m : Int} {w w' : World} (h : grB X n m = false) (hb : Below w.heap.size w w') : SfPost X n m w (.returned (.tuple #[.int .u16 0, .bool false])) w' := ⟨by simp [grW, h], hb⟩
theorem sf_yes {X : Nat → Int} {n : Nat} {m : Int} {w w' : World} (h : grB X n m = true) (hb : Below w.heap.size w w') : SfPost X n m w (.returned (.tuple #[.int .u16 (wd X n : Nat), .bool true])) w' := ⟨by simp [grW, h], hb⟩
/-- One more than the last of the first k. -/
def leastOf (X : Nat → Int) (k : Nat) : Int := if k = 0 then 0 else X (k - 1) + 1
theorem least_succ (X : Nat → Int) (k : Nat) : X k + 1 = leastOf X (k + 1) := by simp [leastOf]
theorem least_in {X : Nat → Int} {m : Int} {k : Nat} (h : grP X m k) : inR (X k) (leastOf X k) (m - 1) = true ↔ (0 ≤ X k ∧ X k ≤ m - 1) ∧ (0 < k → X (k - 1) < X k) := by
  rw [inR_iff]
  by_cases e : k = 0
  · subst e; simp [leastOf]
  · have := (h (k - 1) (by omega)).1
    simp only [leastOf, if_neg e]
    omega
theorem least_bd {X : Nat → Int} {m : Int} {k : Nat} (h : grP X m k) (hm : 1 ≤ m ∧ m ≤ 12) : 0 ≤ leastOf X k ∧ leastOf X k ≤ 12 := by
  unfold leastOf
  split
  · omega
  · have := (h (k - 1) (by omega)).1
    omega

set_option maxRecDepth 100000 in
set_option maxHeartbeats 1000000 in
theorem setFrom_any (a : Option Addr) (n cap : Nat) (X : Nat → Int) (m : Int) (w : World) (hn : n ≤ 1073741824) (hs : Sl w a n 1 (intF X)) :
    Calls Try.prog 114 #[.agg #[.slice a n cap], .int .i64 m] w (SfPost X n m w) := by
  have HS : Hid (Sl w a n 1 (intF X)) := hs
  clear hs
  cases hm : inR m 1 12
  · have HN : Hid (grB X n m = false) := grB_out (fun q => by rw [inR_iff.2 q] at hm; cases hm)
    go_enter Try.func114, Try.ntmps114
    go_wp2_with (go_at_call 54; refine (inRange_any _ _ _ _).mono ?_; rintro e w' ⟨rfl, rfl⟩)
    go_ret2
    exact sf_no HN.out (Go.Joins.below_alloc1 _ _)
  have hm' := inR_iff.1 hm
  have HM : Hid (1 ≤ m ∧ m ≤ 12) := hm'
  go_enter Try.func114, Try.ntmps114
  go_wp2_with (go_at_call 54; refine (inRange_any _ _ _ _).mono ?_; rintro e w' ⟨rfl, rfl⟩)
  clear hm
  go_loopw [16, 6, 7] (fun i s l wr => ∃ k : Nat, k ≤ n ∧ i = .int .i64 k ∧ s = .int .u16 (wd X k : Nat) ∧ l = .int .i64 (leastOf X k) ∧ grP X m k ∧ Below w.heap.size w wr) (fun i _ _ _ => n - (intOf i).toNat)
  case atStart => exact ⟨0, Nat.zero_le _, rfl, rfl, rfl, fun i hi => absurd hi (by omega), Go.Joins.below_alloc1 _ _⟩
  case round =>
    obtain ⟨k, hk, rfl, rfl, rfl, hP, hBr⟩ := hrel
    have HH : Hid (grP X m k ∧ Below w.heap.size w wr) := ⟨hP, hBr⟩
    by_cases hlt : k < n
    · rcases HS.out.below hBr (Nat.le_refl _) with h | ⟨b, off, rfl, hbs, hE⟩
      · omega
      have hlt' : (k : Int) < (n : Int) := by omega
      have hc := int_cell hE hlt
      have hL := least_bd hP hm'
      have HI : Hid (inR (X k) (leastOf X k) (m - 1) = true ↔ (0 ≤ X k ∧ X k ≤ m - 1) ∧ (0 < k → X (k - 1) < X k)) := least_in hP
      have hw : wd X k < 65536 := Nat.lt_trans (wd_lt (gr_in hP hm'.2)) (by omega)
      have HW : Hid (wd X k < 65536) := hw
      have HL : Hid (leastOf X (k + 1) = X k + 1 ∧ wd X (k + 1) = wd X k ||| 2 ^ (X k).toNat) := ⟨(least_succ X k).symm, rfl⟩
      clear hP hBr hE
      generalize leastOf X k = l at *
      generalize wd X k = s at *
      cases hg : inR (X k) l (m - 1)
      · have HN : Hid (grB X n m = false) := grB_bad hlt (fun q => by rw [HI.out.2 q] at hg; cases hg)
        go_wp2_with (go_at_call 54; refine (inRange_any _ _ _ _).mono ?_; rintro e w' ⟨rfl, rfl⟩)
        go_ret2
        exact sf_no HN.out HH.out.2
      · have hx := HI.out.1 hg
        have HX : Hid ((0 ≤ X k ∧ X k ≤ m - 1) ∧ (0 < k → X (k - 1) < X k)) := hx
        obtain ⟨x, hxx⟩ : ∃ x : Nat, X k = (x : Int) := ⟨(X k).toNat, by omega⟩
        have hx15 : x < 16 := by omega
        have HLX : Hid (leastOf X (k + 1) = (x : Int) + 1 ∧ wd X (k + 1) = s ||| 2 ^ x) := Hid.intro (by have := HL.out; rw [hxx] at this; simpa using this)
        clear hx
        rw [hxx] at hc hg
        clear hxx HL
        go_wp2_with (first
          | (go_at_call 54; refine (inRange_any _ _ _ _).mono ?_; rintro e w' ⟨rfl, rfl⟩)
          | (go_at_call 128; refine (with_any _ _ _ HW.out hx15).mono ?_; rintro e w' ⟨rfl, rfl⟩))
        go_roundw
        case rel => exact ⟨k + 1, by omega, by go_num, by rw [HLX.out.2], by rw [HLX.out.1], grP_succ HH.out.1 HX.out, HH.out.2⟩
        case measure => simp [intOf]; omega
    · have hkn : k = n := by omega
      subst hkn
      have HY : Hid (grB X k m = true) := grB_iff.2 ⟨HM.out, hP⟩
      clear hP hBr
      go_wp2
      go_ret2
      exact sf_yes HY.out HH.out.2

set_option maxHeartbeats 400000 in
theorem goodGroup_any (a : Option Addr) (n cap : Nat) (X : Nat → Int) (m : Int) (w : World) (hn : n ≤ 1073741824) (hs : Sl w a n 1 (intF X)) :
    Calls Try.prog 93 #[.agg #[.slice a n cap], .int .i64 m] w fun r w' => r = .returned (.bool (grB X n m)) ∧ Below w.heap.size w w' := by
  go_enter Try.func93, Try.ntmps93
  go_wp2_with fail
  have hba : Below w.heap.size w (w.alloc (.cells #[.slice a n cap] 132)) := Go.Joins.below_alloc1 _ _
  refine (setFrom_any _ _ _ X m _ hn (hs.below hba (Nat.le_refl _))).mono ?_
  rintro r w1 ⟨rfl, hb1⟩
  have HB1 : Hid (Below w.heap.size w w1) := below_next hba hb1
  clear hb1 hba hs
  generalize grW X n m = s
  obtain ⟨b, hbb⟩ : ∃ b, grB X n m = b := ⟨_, rfl⟩
  rw [hbb]
  have HR : Hid (grB X n m = b) := hbb
  clear hbb
  go_wp2
  go_ret
  exact ⟨ret_bool HR.out.symm, HB1.out⟩
set_option maxHeartbeats 400000 in
theorem l8Nodes_any (n : Int) (w : World) :
    Calls Try.prog 57 #[.int .i64 n] w fun e w' => e = .returned (.bool (inR n 1 12)) ∧ w' = w := by
  go_enter Try.func57, Try.ntmps57
  go_wp2_with (go_at_call 58; refine (l1In_any _ _ _ _).mono ?_; rintro e w' ⟨rfl, rfl⟩)
  go_ret
  exact ⟨rfl, rfl⟩

end Go.Proofs.Ytmhkfangfhanlaa
