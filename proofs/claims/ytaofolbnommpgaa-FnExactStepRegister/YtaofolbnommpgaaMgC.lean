/- Put together of: KeyI, RgG, ValI, GrI, ImI, RgA, RgB, RgC. -/
import Derived.Test.YtaofolbnommpgaaMgA
import Derived.Test.YtaofolbnommpgaaGrG
/- The contracts of the tests on keys, on both sides. -/
namespace Go.Proofs.Ytaofolbnommpgaa
open Go.RowKit
set_option linter.unusedVariables false

def keyB (c : UInt8) : Bool := (97 ≤ c && c ≤ 122) || (48 ≤ c && c ≤ 57)
def valB (c : UInt8) : Bool := 32 ≤ c && c ≤ 126 && c != 59
def allB (p : UInt8 → Bool) (s : ByteArray) : Bool := s.data.toList.all p
def keyOk (s : ByteArray) : Bool := inR s.size 1 8 && allB keyB s
def valOk (s : ByteArray) : Bool := decide (s.size ≤ 20) && allB valB s

theorem keyB_true {c : UInt8} (h : keyB c = true) : (97 ≤ (c.toNat : Int) ∧ (c.toNat : Int) ≤ 122) ∨ (48 ≤ (c.toNat : Int) ∧ (c.toNat : Int) ≤ 57) := by
  simp [keyB, UInt8.le_iff_toNat_le] at h; omega
theorem keyB_false {c : UInt8} (h : keyB c = false) : (c.toNat : Int) < 48 ∨ (57 < (c.toNat : Int) ∧ (c.toNat : Int) < 97) ∨ 122 < (c.toNat : Int) := by
  simp [keyB, UInt8.le_iff_toNat_le] at h; omega
theorem valB_true {c : UInt8} (h : valB c = true) : 32 ≤ (c.toNat : Int) ∧ (c.toNat : Int) ≤ 126 ∧ ((c.toNat : Int) == 59) = false := by
  simp [valB, UInt8.le_iff_toNat_le] at h
  refine ⟨by omega, by omega, ?_⟩
  simp
  intro e
  exact h.2 (UInt8.toNat_inj.1 (by simpa using (by omega : c.toNat = 59)))
theorem valB_false {c : UInt8} (h : valB c = false) : (c.toNat : Int) < 32 ∨ 126 < (c.toNat : Int) ∨ (32 ≤ (c.toNat : Int) ∧ (c.toNat : Int) ≤ 126 ∧ ((c.toNat : Int) == 59) = true) := by
  simp only [valB, UInt8.le_iff_toNat_le, Bool.and_eq_false_iff, decide_eq_false_iff_not] at h
  rcases h with (h | h) | h
  · left; simp at h; omega
  · right; left; simp at h; omega
  · have : c = 59 := by simpa using h
    subst this; right; right; simp
theorem allB_iff (p : UInt8 → Bool) (s : ByteArray) : allB p s = true ↔ ∀ i (h : i < s.size), p s[i] = true := by
  unfold allB
  rw [List.all_eq_true]
  constructor
  · intro h i hi
    exact h _ (by rw [← Array.mem_def]; exact Array.getElem_mem (xs := s.data) hi)
  · intro h x hx
    obtain ⟨i, hi, rfl⟩ := List.getElem_of_mem hx
    exact h i (by simpa using hi)
theorem upto_byte {p : UInt8 → Bool} {s : ByteArray} {k : Nat} (h : ∀ j (h : j < s.size), j < k → p s[j] = true) (hk : k < s.size) (hb : p s[k] = true) : ∀ j (h : j < s.size), j < k + 1 → p s[j] = true := by
  intro j hj hjk
  by_cases e : j < k
  · exact h j hj e
  · have e' : j = k := by omega
    subst e'
    exact hb
theorem allB_no {p : UInt8 → Bool} {s : ByteArray} {i : Nat} (h : i < s.size) (hp : p s[i] = false) : allB p s = false := by
  cases hb : allB p s
  · rfl
  · rw [(allB_iff p s).1 hb i h] at hp; cases hp



set_option maxHeartbeats 1000000 in
theorem isKey_any (s : ByteArray) (w : World) (hs : s.size ≤ maxLen) :
    Calls Try.prog 113 #[.string s] w fun r w' => r = .returned (.bool (keyOk s)) ∧ w' = w := by
  unfold maxLen at hs
  by_cases hr : 1 ≤ s.size ∧ s.size ≤ 8
  case neg =>
    have HN : Hid (keyOk s = false) := by show keyOk s = false; simp [keyOk, inR]; omega
    by_cases h0 : s.size = 0
    · have h0' : ((s.size : Int) == 0) = true := by simpa using h0
      go_enter Try.func113, Try.ntmps113
      go_wp2
      go_ret
      exact ⟨ret_bool HN.out.symm, rfl⟩
    · have h0' : ((s.size : Int) == 0) = false := by simpa using h0
      have h8 : (8 : Int) < (s.size : Int) := by omega
      go_enter Try.func113, Try.ntmps113
      go_wp2
      go_ret
      exact ⟨ret_bool HN.out.symm, rfl⟩
  case pos =>
  have h0' : ((s.size : Int) == 0) = false := beq_eq_false_iff_ne.2 (by omega)
  have h8 : ¬ (8 : Int) < (s.size : Int) := by omega
  go_enter Try.func113, Try.ntmps113
  go_wp2
  go_loop [15] (fun i => ∃ k : Nat, k ≤ s.size ∧ i = .int .i64 k ∧ ∀ j (h : j < s.size), j < k → keyB s[j] = true) (fun i => s.size - (intOf i).toNat)
  case atStart => exact ⟨0, Nat.zero_le _, rfl, fun j _ h => absurd h (by omega)⟩
  case round =>
    obtain ⟨k, hk, rfl, hall⟩ := hrel
    have HA : Hid (∀ j (h : j < s.size), j < k → keyB s[j] = true) := hall
    clear hall
    by_cases hlt : k < s.size
    · cases hb : keyB s[k]
      · have HN : Hid (keyOk s = false) := by show keyOk s = false; simp [keyOk, allB_no hlt hb]
        rcases keyB_false hb with h | ⟨h, h'⟩ | h
        all_goals
          clear hb
          go_wp2
          go_ret
          exact ⟨ret_bool HN.out.symm, rfl⟩
      · have HB : Hid (keyB s[k] = true) := hb
        rcases keyB_true hb with ⟨h, h'⟩ | ⟨h, h'⟩
        all_goals
          clear hb
          go_wp2
          go_round
          case rel => exact ⟨k + 1, by omega, by go_num, upto_byte HA.out hlt HB.out⟩
          case measure => simp [intOf]; omega
    · have HN : Hid (keyOk s = true) := by
        show keyOk s = true
        have : allB keyB s = true := (allB_iff _ _).2 fun i hi => HA.out i hi (by omega)
        simp only [keyOk, this, inR, Bool.and_true, Bool.and_eq_true, decide_eq_true_eq]; omega
      go_wp2
      go_ret
      exact ⟨ret_bool HN.out.symm, rfl⟩

end Go.Proofs.Ytaofolbnommpgaa
/- Registers that many keep: what a good one is. Mathematics alone. -/
namespace Go.Proofs.Ytaofolbnommpgaa
open Go.RowKit
set_option linter.unusedVariables false

def copP (n i : Int) (v : ByteArray) : Prop := (0 ≤ n ∧ n ≤ 1000) ∧ (0 ≤ i ∧ i ≤ 9) ∧ valOk v = true
def risP (l : List Int) (m : Int) : Prop := grP (atI l) m l.length
/-- A good op of a register with this clock and so many copies. -/
def opQ (ck nc : Int) (x0 : Int) (x1 : Bool) (x2 : ByteArray) (x3 : Int) (x4 : List Int) (x5 x6 : Int) (x7 : ByteArray) (x8 x9 : Int) : Prop :=
  (0 ≤ x0 ∧ x0 ≤ 9) ∧ valOk x2 = true ∧ (x1 = true ∨ x2.size = 0) ∧ (1 ≤ x3 ∧ x3 ≤ 3) ∧ copP x5 x6 x7 ∧ (0 ≤ x8 ∧ x8 ≤ ck - 1) ∧ 2 * (x4.length : Int) ≤ nc ∧ (x3 = 3 → x4.length = 0) ∧ (x3 = 3 → x8 + 1 ≤ x9 ∧ x9 ≤ ck - 1) ∧ (x3 ≠ 3 → x9 = 0) ∧ risP x4 nc
abbrev RgO := Sh.T shRegOp
def RgO.cl (o : RgO) : Int := o.1
def RgO.ph (o : RgO) : Int := o.2.2.2.1
def RgO.st (o : RgO) : Int := o.2.2.2.2.2.2.1
def RgO.en (o : RgO) : Int := o.2.2.2.2.2.2.2.1
def opP (ck nc : Int) (o : RgO) : Prop := opQ ck nc o.1 o.2.1 o.2.2.1 o.2.2.2.1 o.2.2.2.2.1 o.2.2.2.2.2.1.1 o.2.2.2.2.2.1.2.1 o.2.2.2.2.2.1.2.2.1 o.2.2.2.2.2.2.1 o.2.2.2.2.2.2.2.1
/-- Two ops that may stand together, a ahead of b. -/
def busyP (a b : RgO) : Prop := ¬ (a.cl = b.cl ∧ a.ph ≠ 3 ∧ b.ph ≠ 3)
def prP (a b : RgO) : Prop := busyP a b ∧ a.st ≠ b.st ∧ (b.ph = 3 → b.en ≠ a.st) ∧ (a.ph = 3 → a.en ≠ b.st) ∧ (a.ph = 3 → b.ph = 3 → a.en ≠ b.en)
def goodR (ck : Int) (cs : List (Sh.T shCopy)) (os : List (Sh.T shRegOp)) : Prop :=
  (0 ≤ ck ∧ ck ≤ 1000) ∧ (1 ≤ cs.length ∧ cs.length ≤ 12) ∧ os.length ≤ 7 ∧ (∀ c ∈ cs, copP c.1 c.2.1 c.2.2.1) ∧ (∀ o ∈ os, opP ck cs.length o) ∧ os.Pairwise prP
/-- When something was. -/
def tmO (o : RgO) : List Int := o.st :: if o.ph = 3 then [o.en] else []
def tmL (l : List (Sh.T shRegOp)) : List Int := l.flatMap tmO
theorem tm_mem {l : List (Sh.T shRegOp)} {t : Int} : t ∈ tmL l ↔ ∃ o ∈ l, t = RgO.st o ∨ (RgO.ph o = 3 ∧ t = RgO.en o) := by
  unfold tmL
  rw [List.mem_flatMap]
  constructor
  · rintro ⟨o, ho, ht⟩
    refine ⟨o, ho, ?_⟩
    unfold tmO at ht
    rcases List.mem_cons.1 ht with q | q
    · exact Or.inl q
    · by_cases e : RgO.ph o = 3
      · rw [if_pos e] at q; exact Or.inr ⟨e, List.mem_singleton.1 q⟩
      · rw [if_neg e] at q; cases q
  · rintro ⟨o, ho, ht⟩
    refine ⟨o, ho, ?_⟩
    unfold tmO
    rcases ht with q | ⟨e, q⟩
    · rw [q]; exact List.mem_cons_self
    · rw [if_pos e, q]; simp
/-- Times are unlike just where each two ops' times are. -/
theorem unlike_iff {ck nc : Int} : ∀ {l : List (Sh.T shRegOp)}, (∀ o ∈ l, opP ck nc o) → (l.Pairwise busyP ∧ (tmL l).Nodup ↔ l.Pairwise prP)
  | [], _ => by simp [tmL]
  | o :: t, h => by
    have ih := unlike_iff (l := t) (fun q hq => h q (List.mem_cons_of_mem _ hq))
    have ho : opP ck nc o := h o List.mem_cons_self
    have hne : RgO.ph o = 3 → RgO.en o ≠ RgO.st o := fun e q => by
      have := ho.2.2.2.2.2.2.2.2.1 e
      have h1 : RgO.st o + 1 ≤ RgO.en o := this.1
      omega
    rw [List.pairwise_cons, List.pairwise_cons, ← ih]
    have e1 : tmL (o :: t) = tmO o ++ tmL t := by simp [tmL]
    rw [e1, List.nodup_append]
    have e2 : (tmO o).Nodup := by
      unfold tmO
      by_cases e : RgO.ph o = 3
      · rw [if_pos e]; simp; exact fun q => hne e q.symm
      · rw [if_neg e]; simp
    have e3 : (∀ a ∈ tmO o, ∀ b ∈ tmL t, a ≠ b) ↔ ∀ b ∈ t, RgO.st o ≠ RgO.st b ∧ (RgO.ph b = 3 → RgO.en b ≠ RgO.st o) ∧ (RgO.ph o = 3 → RgO.en o ≠ RgO.st b) ∧ (RgO.ph o = 3 → RgO.ph b = 3 → RgO.en o ≠ RgO.en b) := by
      constructor
      · intro hd b hb
        have hs : RgO.st o ∈ tmO o := List.mem_cons_self
        have he : RgO.ph o = 3 → RgO.en o ∈ tmO o := fun e => by unfold tmO; rw [if_pos e]; simp
        exact ⟨hd _ hs _ (tm_mem.2 ⟨b, hb, Or.inl rfl⟩), fun e q => hd _ hs _ (tm_mem.2 ⟨b, hb, Or.inr ⟨e, rfl⟩⟩) q.symm, fun e => hd _ (he e) _ (tm_mem.2 ⟨b, hb, Or.inl rfl⟩), fun e e' => hd _ (he e) _ (tm_mem.2 ⟨b, hb, Or.inr ⟨e', rfl⟩⟩)⟩
      · intro hd a ha c hc
        obtain ⟨b, hb, hcb⟩ := tm_mem.1 hc
        have hq := hd b hb
        have ha' : a = RgO.st o ∨ (RgO.ph o = 3 ∧ a = RgO.en o) := by
          have := tm_mem (l := [o]) (t := a)
          simp only [tmL, List.flatMap_cons, List.flatMap_nil, List.append_nil, List.mem_singleton, exists_eq_left] at this
          exact this.1 ha
        rcases ha' with e | ⟨e, e'⟩ <;> rcases hcb with f | ⟨f, f'⟩
        · rw [e, f]; exact hq.1
        · rw [e, f']; exact fun q => hq.2.1 f q.symm
        · rw [e', f]; exact hq.2.2.1 e
        · rw [e', f']; exact hq.2.2.2 e f
    rw [e3]
    constructor
    · rintro ⟨⟨h1, h2⟩, h3, h4, h5⟩
      exact ⟨fun b hb => ⟨h1 b hb, h5 b hb⟩, h2, h4⟩
    · rintro ⟨h1, h2, h3⟩
      exact ⟨⟨fun b hb => (h1 b hb).1, h2⟩, e2, h3, fun b hb => (h1 b hb).2⟩
theorem tm_len (l : List (Sh.T shRegOp)) : (tmL l).length ≤ 2 * l.length := by
  unfold tmL
  induction l with
  | nil => simp
  | cons o t ih =>
    rw [List.flatMap_cons, List.length_append, List.length_cons]
    have : (tmO o).length ≤ 2 := by unfold tmO; split <;> simp
    omega
end Go.Proofs.Ytaofolbnommpgaa
/- The contracts of the tests on values, on both sides, beside those on keys (TvI without tids). -/
namespace Go.Proofs.Ytaofolbnommpgaa
open Go.RowKit
set_option linter.unusedVariables false

set_option maxHeartbeats 1000000 in
theorem l1Value_any (s : ByteArray) (w : World) (hs : s.size ≤ maxLen) :
    Calls Try.prog 64 #[.string s] w fun r w' => r = .returned (.bool (valOk s)) ∧ w' = w := by
  unfold maxLen at hs
  go_enter Try.func64, Try.ntmps64
  go_wp2
  go_loop [3] (fun i => ∃ k : Nat, k ≤ s.size ∧ i = .int .i64 k ∧ ∀ j (h : j < s.size), j < k → valB s[j] = true) (fun i => s.size - (intOf i).toNat)
  case atStart => exact ⟨0, Nat.zero_le _, rfl, fun j _ h => absurd h (by omega)⟩
  case round =>
    obtain ⟨k, hk, rfl, hall⟩ := hrel
    have HA : Hid (∀ j (h : j < s.size), j < k → valB s[j] = true) := hall
    clear hall
    by_cases hlt : k < s.size
    · cases hb : valB s[k]
      · have HN : Hid (valOk s = false) := by show valOk s = false; simp [valOk, allB_no hlt hb]
        rcases valB_false hb with h | h | ⟨h, h', h''⟩
        all_goals
          clear hb
          go_wp2
          go_ret
          exact ⟨ret_bool HN.out.symm, rfl⟩
      · have HB : Hid (valB s[k] = true) := hb
        obtain ⟨h, h', h''⟩ := valB_true hb
        all_goals
          clear hb
          go_wp2
          go_round
          case rel => exact ⟨k + 1, by omega, by go_num, upto_byte HA.out hlt HB.out⟩
          case measure => simp [intOf]; omega
    · have HN : Hid (valOk s = decide (s.size ≤ 20)) := by
        show valOk s = decide (s.size ≤ 20)
        have : allB valB s = true := (allB_iff _ _).2 fun i hi => HA.out i hi (by omega)
        simp [valOk, this]
      go_wp2
      go_ret
      exact ⟨ret_bool (by rw [HN.out]; simp; omega), rfl⟩

set_option maxHeartbeats 1000000 in
theorem isValue_any (s : ByteArray) (w : World) (hs : s.size ≤ maxLen) :
    Calls Try.prog 97 #[.string s] w fun r w' => r = .returned (.bool (valOk s)) ∧ w' = w := by
  unfold maxLen at hs
  by_cases hr : s.size ≤ 20
  case neg =>
    have HN : Hid (valOk s = false) := by show valOk s = false; simp [valOk]; omega
    have h8 : (20 : Int) < (s.size : Int) := by omega
    go_enter Try.func97, Try.ntmps97
    go_wp2
    go_ret
    exact ⟨ret_bool HN.out.symm, rfl⟩
  case pos =>
  have h8 : ¬ (20 : Int) < (s.size : Int) := by omega
  go_enter Try.func97, Try.ntmps97
  go_wp2
  go_loop [10] (fun i => ∃ k : Nat, k ≤ s.size ∧ i = .int .i64 k ∧ ∀ j (h : j < s.size), j < k → valB s[j] = true) (fun i => s.size - (intOf i).toNat)
  case atStart => exact ⟨0, Nat.zero_le _, rfl, fun j _ h => absurd h (by omega)⟩
  case round =>
    obtain ⟨k, hk, rfl, hall⟩ := hrel
    have HA : Hid (∀ j (h : j < s.size), j < k → valB s[j] = true) := hall
    clear hall
    by_cases hlt : k < s.size
    · cases hb : valB s[k]
      · have HN : Hid (valOk s = false) := by show valOk s = false; simp [valOk, allB_no hlt hb]
        rcases valB_false hb with h | h | ⟨h, h', h''⟩
        all_goals
          clear hb
          go_wp2
          go_ret
          exact ⟨ret_bool HN.out.symm, rfl⟩
      · have HB : Hid (valB s[k] = true) := hb
        obtain ⟨h, h', h''⟩ := valB_true hb
        all_goals
          clear hb
          go_wp2
          go_round
          case rel => exact ⟨k + 1, by omega, by go_num, upto_byte HA.out hlt HB.out⟩
          case measure => simp [intOf]; omega
    · have HN : Hid (valOk s = true) := by
        show valOk s = true
        have : allB valB s = true := (allB_iff _ _).2 fun i hi => HA.out i hi (by omega)
        simp [valOk, this]; omega
      go_wp2
      go_ret
      exact ⟨ret_bool HN.out.symm, rfl⟩
end Go.Proofs.Ytaofolbnommpgaa
/- The contracts of has, with, setFrom, GoodGroup, IsMajority, on both sides. -/
namespace Go.Proofs.Ytaofolbnommpgaa
open Go.RowKit
set_option linter.unusedVariables false

theorem wraps_u16 (n : Int) (h0 : 0 ≤ n) (h1 : n < 2 ^ 16) : IntKind.u16.wrap n = n := by
  have e : IntKind.u16.wrap n = n % 65536 := by simp [IntKind.wrap, IntKind.bits, IntKind.signed]
  rw [e]; omega
theorem and_u16 (a b : Nat) (ha : a < 65536) (hb : b < 65536) : bits .and .u16 (a : Int) (b : Int) = ((a &&& b : Nat) : Int) := (bits_nat .u16 16 (by decide) wraps_u16 a b ha hb).1
theorem or_u16 (a b : Nat) (ha : a < 65536) (hb : b < 65536) : bits .or .u16 (a : Int) (b : Int) = ((a ||| b : Nat) : Int) := (bits_nat .u16 16 (by decide) wraps_u16 a b ha hb).2
theorem has_bit (s j : Nat) (hs : s < 65536) : (bits .and .u16 ((s : Int) / 2 ^ j) 1 == 1) = s.testBit j := by
  have e : ((s : Int) / 2 ^ j) = ((s / 2 ^ j : Nat) : Int) := by simp
  have hl : s / 2 ^ j < 65536 := Nat.lt_of_le_of_lt (Nat.div_le_self _ _) hs
  rw [e, show (1 : Int) = ((1 : Nat) : Int) from rfl, and_u16 _ _ hl (by decide), Nat.and_one_is_mod, Nat.testBit_eq_decide_div_mod_eq, Bool.eq_iff_iff]
  simp only [beq_iff_eq, decide_eq_true_eq]
  omega
theorem with_bit (s j : Nat) (hs : s < 65536) (hj : j < 16) : bits .or .u16 (s : Int) (IntKind.u16.wrap (1 * 2 ^ j)) = ((s ||| 2 ^ j : Nat) : Int) := by
  have hp : 2 ^ j < 65536 := Nat.pow_lt_pow_right (a := 2) (n := 16) (by omega) hj
  have e : (1 * 2 ^ j : Int) = ((2 ^ j : Nat) : Int) := by simp
  rw [e, wraps_u16 _ (Int.natCast_nonneg _) (by exact_mod_cast hp), or_u16 _ _ hs hp]



set_option maxHeartbeats 400000 in
theorem with_any (s j : Nat) (w : World) (hs : s < 65536) (hj : j < 16) :
    Calls Try.prog 137 #[.int .u16 s, .int .i64 j] w fun e w' => e = .returned (.int .u16 ((s ||| 2 ^ j : Nat) : Int)) ∧ w' = w := by
  have HE : Hid (bits .or .u16 (s : Int) (IntKind.u16.wrap (1 * 2 ^ j)) = ((s ||| 2 ^ j : Nat) : Int)) := with_bit s j hs hj
  go_enter Try.func137, Try.ntmps137
  go_wp2
  go_ret
  refine ⟨?_, rfl⟩
  have := HE.out
  simpa using this

theorem ret2 {a b c d : Value} (h : a = c) (k : b = d) : Ending.returned (.tuple #[a, b]) = .returned (.tuple #[c, d]) := by rw [h, k]
/-- The word of a good group, 0 of any other one. -/
def grW (X : Nat → Int) (n : Nat) (m : Int) : Nat := if grB X n m then wd X n else 0
theorem grW_lt {X : Nat → Int} {n : Nat} {m : Int} : grW X n m < 4096 := by
  unfold grW
  split
  case isTrue h => exact wd_lt (gr_in (grB_iff.1 h).2 (grB_iff.1 h).1.2)
  case isFalse => omega
def SfPost (X : Nat → Int) (n : Nat) (m : Int) (w : World) (r : Ending) (w' : World) : Prop := r = .returned (.tuple #[.int .u16 (grW X n m : Nat), .bool (grB X n m)]) ∧ Below w.heap.size w w'
theorem sf_no {X : Nat → Int} {n : Nat} {m : Int} {w w' : World} (h : grB X n m = false) (hb : Below w.heap.size w w') : SfPost X n m w (.returned (.tuple #[.int .u16 0, .bool false])) w' := ⟨by simp [grW, h], hb⟩
theorem sf_yes {X : Nat → Int} {n : Nat} {m : Int} {w w' : World} (h : grB X n m = true) (hb : Below w.heap.size w w') : SfPost X n m w (.returned (.tuple #[.int .u16 (wd X n : Nat), .bool true])) w' := ⟨by simp [grW, h], hb⟩
/-- One more than the last of the first k. -/
def leastOf (X : Nat → Int) (k : Nat) : Int := if k = 0 then 0 else X (k - 1) + 1
theorem least_succ (X : Nat → Int) (k : Nat) : X k + 1 = leastOf X (k + 1) := by simp [leastOf]
theorem least_in {X : Nat → Int} {m : Int} {k : Nat} (h : grP X m k) : inR (X k) (leastOf X k) (m - 1) = true ↔ (0 ≤ X k ∧ X k ≤ m - 1) ∧ (0 < k → X (k - 1) < X k) := by
  rw [inR_iff]
  by_cases e : k = 0
  · subst e; simp [leastOf]
  · have := (h (k - 1) (by omega)).1
    simp only [leastOf, if_neg e]
    omega
theorem least_bd {X : Nat → Int} {m : Int} {k : Nat} (h : grP X m k) (hm : 1 ≤ m ∧ m ≤ 12) : 0 ≤ leastOf X k ∧ leastOf X k ≤ 12 := by
  unfold leastOf
  split
  · omega
  · have := (h (k - 1) (by omega)).1
    omega

set_option maxRecDepth 100000 in
set_option maxHeartbeats 1000000 in
theorem setFrom_any (a : Option Addr) (n cap : Nat) (X : Nat → Int) (m : Int) (w : World) (hn : n ≤ 1073741824) (hs : Sl w a n 1 (intF X)) :
    Calls Try.prog 130 #[.agg #[.slice a n cap], .int .i64 m] w (SfPost X n m w) := by
  have HS : Hid (Sl w a n 1 (intF X)) := hs
  clear hs
  cases hm : inR m 1 12
  · have HN : Hid (grB X n m = false) := grB_out (fun q => by rw [inR_iff.2 q] at hm; cases hm)
    go_enter Try.func130, Try.ntmps130
    go_wp2_with (go_at_call 54; refine (inRange_any _ _ _ _).mono ?_; rintro e w' ⟨rfl, rfl⟩)
    go_ret2
    exact sf_no HN.out (Go.Joins.below_alloc1 _ _)
  have hm' := inR_iff.1 hm
  have HM : Hid (1 ≤ m ∧ m ≤ 12) := hm'
  go_enter Try.func130, Try.ntmps130
  go_wp2_with (go_at_call 54; refine (inRange_any _ _ _ _).mono ?_; rintro e w' ⟨rfl, rfl⟩)
  clear hm
  go_loopw [16, 6, 7] (fun i s l wr => ∃ k : Nat, k ≤ n ∧ i = .int .i64 k ∧ s = .int .u16 (wd X k : Nat) ∧ l = .int .i64 (leastOf X k) ∧ grP X m k ∧ Below w.heap.size w wr) (fun i _ _ _ => n - (intOf i).toNat)
  case atStart => exact ⟨0, Nat.zero_le _, rfl, rfl, rfl, fun i hi => absurd hi (by omega), Go.Joins.below_alloc1 _ _⟩
  case round =>
    obtain ⟨k, hk, rfl, rfl, rfl, hP, hBr⟩ := hrel
    have HH : Hid (grP X m k ∧ Below w.heap.size w wr) := ⟨hP, hBr⟩
    by_cases hlt : k < n
    · rcases HS.out.below hBr (Nat.le_refl _) with h | ⟨b, off, rfl, hbs, hE⟩
      · omega
      have hlt' : (k : Int) < (n : Int) := by omega
      have hc := int_cell hE hlt
      have hL := least_bd hP hm'
      have HI : Hid (inR (X k) (leastOf X k) (m - 1) = true ↔ (0 ≤ X k ∧ X k ≤ m - 1) ∧ (0 < k → X (k - 1) < X k)) := least_in hP
      have hw : wd X k < 65536 := Nat.lt_trans (wd_lt (gr_in hP hm'.2)) (by omega)
      have HW : Hid (wd X k < 65536) := hw
      have HL : Hid (leastOf X (k + 1) = X k + 1 ∧ wd X (k + 1) = wd X k ||| 2 ^ (X k).toNat) := ⟨(least_succ X k).symm, rfl⟩
      clear hP hBr hE
      generalize leastOf X k = l at *
      generalize wd X k = s at *
      cases hg : inR (X k) l (m - 1)
      · have HN : Hid (grB X n m = false) := grB_bad hlt (fun q => by rw [HI.out.2 q] at hg; cases hg)
        go_wp2_with (go_at_call 54; refine (inRange_any _ _ _ _).mono ?_; rintro e w' ⟨rfl, rfl⟩)
        go_ret2
        exact sf_no HN.out HH.out.2
      · have hx := HI.out.1 hg
        have HX : Hid ((0 ≤ X k ∧ X k ≤ m - 1) ∧ (0 < k → X (k - 1) < X k)) := hx
        obtain ⟨x, hxx⟩ : ∃ x : Nat, X k = (x : Int) := ⟨(X k).toNat, by omega⟩
        have hx15 : x < 16 := by omega
        have HLX : Hid (leastOf X (k + 1) = (x : Int) + 1 ∧ wd X (k + 1) = s ||| 2 ^ x) := Hid.intro (by have := HL.out; rw [hxx] at this; simpa using this)
        clear hx
        rw [hxx] at hc hg
        clear hxx HL
        go_wp2_with (first
          | (go_at_call 54; refine (inRange_any _ _ _ _).mono ?_; rintro e w' ⟨rfl, rfl⟩)
          | (go_at_call 137; refine (with_any _ _ _ HW.out hx15).mono ?_; rintro e w' ⟨rfl, rfl⟩))
        go_roundw
        case rel => exact ⟨k + 1, by omega, by go_num, by rw [HLX.out.2], by rw [HLX.out.1], grP_succ HH.out.1 HX.out, HH.out.2⟩
        case measure => simp [intOf]; omega
    · have hkn : k = n := by omega
      subst hkn
      have HY : Hid (grB X k m = true) := grB_iff.2 ⟨HM.out, hP⟩
      clear hP hBr
      go_wp2
      go_ret2
      exact sf_yes HY.out HH.out.2

set_option maxHeartbeats 400000 in
theorem goodGroup_any (a : Option Addr) (n cap : Nat) (X : Nat → Int) (m : Int) (w : World) (hn : n ≤ 1073741824) (hs : Sl w a n 1 (intF X)) :
    Calls Try.prog 118 #[.agg #[.slice a n cap], .int .i64 m] w fun r w' => r = .returned (.bool (grB X n m)) ∧ Below w.heap.size w w' := by
  go_enter Try.func118, Try.ntmps118
  go_wp2_with fail
  have hba : Below w.heap.size w (w.alloc (.cells #[.slice a n cap] 131)) := Go.Joins.below_alloc1 _ _
  refine (setFrom_any _ _ _ X m _ hn (hs.below hba (Nat.le_refl _))).mono ?_
  rintro r w1 ⟨rfl, hb1⟩
  have HB1 : Hid (Below w.heap.size w w1) := below_next hba hb1
  clear hb1 hba hs
  generalize grW X n m = s
  obtain ⟨b, hbb⟩ : ∃ b, grB X n m = b := ⟨_, rfl⟩
  rw [hbb]
  have HR : Hid (grB X n m = b) := hbb
  clear hbb
  go_wp2
  go_ret
  exact ⟨ret_bool HR.out.symm, HB1.out⟩
set_option maxHeartbeats 400000 in
theorem l8Nodes_any (n : Int) (w : World) :
    Calls Try.prog 62 #[.int .i64 n] w fun e w' => e = .returned (.bool (inR n 1 12)) ∧ w' = w := by
  go_enter Try.func62, Try.ntmps62
  go_wp2_with (go_at_call 61; refine (l1In_any _ _ _ _).mono ?_; rintro e w' ⟨rfl, rfl⟩)
  go_ret
  exact ⟨rfl, rfl⟩

end Go.Proofs.Ytaofolbnommpgaa
/- The contracts of IsMajority, on both sides. -/
namespace Go.Proofs.Ytaofolbnommpgaa
open Go.RowKit
set_option linter.unusedVariables false

/-- A good group that has more than half. -/
def imB (X : Nat → Int) (n : Nat) (m : Int) : Bool := grB X n m && decide (m < 2 * (n : Int))
theorem im_no {X : Nat → Int} {n : Nat} {m : Int} (h : grB X n m = false) : Ending.returned (.tuple #[.bool false, .bool false]) = .returned (.tuple #[.bool (imB X n m), .bool (grB X n m)]) := by simp [imB, h]
theorem im_yes {X : Nat → Int} {n : Nat} {m : Int} {b : Bool} (h : grB X n m = true) (hb : b = decide (m < 2 * (n : Int))) : Ending.returned (.tuple #[.bool b, .bool true]) = .returned (.tuple #[.bool (imB X n m), .bool (grB X n m)]) := by simp [imB, h, hb]

set_option maxRecDepth 100000 in
set_option maxHeartbeats 400000 in
theorem isMajority_any (a : Option Addr) (n cap : Nat) (X : Nat → Int) (m : Int) (w : World) (hn : n ≤ 1073741824) (hs : Sl w a n 1 (intF X)) :
    Calls Try.prog 99 #[.agg #[.slice a n cap], .int .i64 m] w fun r w' => r = .returned (.tuple #[.bool (imB X n m), .bool (grB X n m)]) ∧ Below w.heap.size w w' := by
  go_enter Try.func99, Try.ntmps99
  go_wp2_with fail
  have hba : Below w.heap.size w (w.alloc (.cells #[.slice a n cap] 131)) := Go.Joins.below_alloc1 _ _
  refine (goodGroup_any _ _ _ X m _ hn (hs.below hba (Nat.le_refl _))).mono ?_
  rintro r w1 ⟨rfl, hb1⟩
  have HB1 : Hid (Below w.heap.size w w1) := below_next hba hb1
  have c0 : w1.cell? ⟨w.heap.size, 0, none⟩ = some (.slice a n cap) := ((BoxS.new w (.slice a n cap) 131).next hb1).1
  have z0 : w.heap.size < w1.heap.size := ((BoxS.new w (.slice a n cap) 131).next hb1).2
  clear hb1 hba hs
  cases hg : grB X n m
  · have HN : Hid (grB X n m = false) := hg
    clear hg
    go_wp2
    go_ret2
    exact ⟨im_no HN.out, HB1.out⟩
  · have HN : Hid (grB X n m = true) := hg
    clear hg
    go_wp2
    go_ret2
    exact ⟨im_yes HN.out rfl, HB1.out⟩

end Go.Proofs.Ytaofolbnommpgaa
/- Registers: the program's small tests on copies and ops. -/
namespace Go.Proofs.Ytaofolbnommpgaa
open Go.RowKit
set_option linter.unusedVariables false

theorem cop_inR {n i : Int} {v : ByteArray} : tf (copP n i v) = (inR n 0 1000 && (inR i 0 9 && valOk v)) := by
  rw [Bool.eq_iff_iff, tf_iff, Bool.and_eq_true, Bool.and_eq_true, inR_iff, inR_iff]; exact Iff.rfl

set_option maxHeartbeats 1000000 in
theorem isCopy_n (n i : Int) (v : ByteArray) (w : World) (hv : v.size ≤ maxLen) :
    Calls Try.prog 55 #[.agg #[.int .i64 n, .int .i64 i, .string v]] w fun r w' => r = .returned (.bool (tf (copP n i v))) ∧ Below w.heap.size w w' := by
  rw [cop_inR]
  have HV : Hid (v.size ≤ maxLen) := hv
  clear hv
  cases h1 : inR n 0 1000
  · go_enter Try.func55, Try.ntmps55
    go_wp2_with (first | (go_at_call 54; refine (inRange_any _ _ _ _).mono ?_; rintro e w' ⟨rfl, rfl⟩))
    go_ret
    exact ⟨by simp, (by repeat (first | refine Below.setCell ?_ (by (try simp) <;> omega) _ | refine Below.alloc ?_ (by (try simp) <;> omega) _ | refine Below.drew ?_ | assumption | exact Below.refl _ _ | refine Below.trans ?_ (Below.mono (by assumption) (by (try simp) <;> omega))))⟩
  cases h2 : inR i 0 9
  · go_enter Try.func55, Try.ntmps55
    go_wp2_with (first | (go_at_call 54; refine (inRange_any _ _ _ _).mono ?_; rintro e w' ⟨rfl, rfl⟩))
    go_ret
    exact ⟨by simp, (by repeat (first | refine Below.setCell ?_ (by (try simp) <;> omega) _ | refine Below.alloc ?_ (by (try simp) <;> omega) _ | refine Below.drew ?_ | assumption | exact Below.refl _ _ | refine Below.trans ?_ (Below.mono (by assumption) (by (try simp) <;> omega))))⟩
  cases h3 : valOk v
  · go_enter Try.func55, Try.ntmps55
    go_wp2_with (first | (go_at_call 54; refine (inRange_any _ _ _ _).mono ?_; rintro e w' ⟨rfl, rfl⟩) | (go_at_call 97; refine (isValue_any _ _ HV.out).mono ?_; rintro e w' ⟨rfl, rfl⟩))
    go_ret
    exact ⟨by simp, (by repeat (first | refine Below.setCell ?_ (by (try simp) <;> omega) _ | refine Below.alloc ?_ (by (try simp) <;> omega) _ | refine Below.drew ?_ | assumption | exact Below.refl _ _ | refine Below.trans ?_ (Below.mono (by assumption) (by (try simp) <;> omega))))⟩
  · go_enter Try.func55, Try.ntmps55
    go_wp2_with (first | (go_at_call 54; refine (inRange_any _ _ _ _).mono ?_; rintro e w' ⟨rfl, rfl⟩) | (go_at_call 97; refine (isValue_any _ _ HV.out).mono ?_; rintro e w' ⟨rfl, rfl⟩))
    go_ret
    exact ⟨by simp, (by repeat (first | refine Below.setCell ?_ (by (try simp) <;> omega) _ | refine Below.alloc ?_ (by (try simp) <;> omega) _ | refine Below.drew ?_ | assumption | exact Below.refl _ _ | refine Below.trans ?_ (Below.mono (by assumption) (by (try simp) <;> omega))))⟩

set_option maxHeartbeats 1000000 in
theorem l9Copy_n (n i : Int) (v : ByteArray) (w : World) (hv : v.size ≤ maxLen) :
    Calls Try.prog 63 #[.agg #[.int .i64 n, .int .i64 i, .string v]] w fun r w' => r = .returned (.bool (tf (copP n i v))) ∧ Below w.heap.size w w' := by
  rw [cop_inR]
  have HV : Hid (v.size ≤ maxLen) := hv
  clear hv
  cases h1 : inR n 0 1000
  · go_enter Try.func63, Try.ntmps63
    go_wp2_with (first | (go_at_call 61; refine (l1In_any _ _ _ _).mono ?_; rintro e w' ⟨rfl, rfl⟩))
    go_ret
    exact ⟨by simp, (by repeat (first | refine Below.setCell ?_ (by (try simp) <;> omega) _ | refine Below.alloc ?_ (by (try simp) <;> omega) _ | refine Below.drew ?_ | assumption | exact Below.refl _ _ | refine Below.trans ?_ (Below.mono (by assumption) (by (try simp) <;> omega))))⟩
  cases h2 : inR i 0 9
  · go_enter Try.func63, Try.ntmps63
    go_wp2_with (first | (go_at_call 61; refine (l1In_any _ _ _ _).mono ?_; rintro e w' ⟨rfl, rfl⟩))
    go_ret
    exact ⟨by simp, (by repeat (first | refine Below.setCell ?_ (by (try simp) <;> omega) _ | refine Below.alloc ?_ (by (try simp) <;> omega) _ | refine Below.drew ?_ | assumption | exact Below.refl _ _ | refine Below.trans ?_ (Below.mono (by assumption) (by (try simp) <;> omega))))⟩
  cases h3 : valOk v
  · go_enter Try.func63, Try.ntmps63
    go_wp2_with (first | (go_at_call 61; refine (l1In_any _ _ _ _).mono ?_; rintro e w' ⟨rfl, rfl⟩) | (go_at_call 64; refine (l1Value_any _ _ HV.out).mono ?_; rintro e w' ⟨rfl, rfl⟩))
    go_ret
    exact ⟨by simp, (by repeat (first | refine Below.setCell ?_ (by (try simp) <;> omega) _ | refine Below.alloc ?_ (by (try simp) <;> omega) _ | refine Below.drew ?_ | assumption | exact Below.refl _ _ | refine Below.trans ?_ (Below.mono (by assumption) (by (try simp) <;> omega))))⟩
  · go_enter Try.func63, Try.ntmps63
    go_wp2_with (first | (go_at_call 61; refine (l1In_any _ _ _ _).mono ?_; rintro e w' ⟨rfl, rfl⟩) | (go_at_call 64; refine (l1Value_any _ _ HV.out).mono ?_; rintro e w' ⟨rfl, rfl⟩))
    go_ret
    exact ⟨by simp, (by repeat (first | refine Below.setCell ?_ (by (try simp) <;> omega) _ | refine Below.alloc ?_ (by (try simp) <;> omega) _ | refine Below.drew ?_ | assumption | exact Below.refl _ _ | refine Below.trans ?_ (Below.mono (by assumption) (by (try simp) <;> omega))))⟩

def opV (b : Bool) (v : ByteArray) : Bool := valOk v && (b || v.toList.isEmpty)
theorem opV_iff {b : Bool} {v : ByteArray} : opV b v = true ↔ valOk v = true ∧ (b = true ∨ v.size = 0) := by
  rw [opV, Bool.and_eq_true, Bool.or_eq_true, empty_iff]

set_option maxHeartbeats 1000000 in
theorem isOpValue_n (b : Bool) (v : ByteArray) (w : World) (hv : v.size ≤ maxLen) :
    Calls Try.prog 98 #[.bool b, .string v] w fun r w' => r = .returned (.bool (opV b v)) ∧ w' = w := by
  have HV : Hid (v.size ≤ maxLen) := hv
  clear hv
  unfold opV
  cases h3 : valOk v
  · go_enter Try.func98, Try.ntmps98
    go_wp2_with (first | (go_at_call 97; refine (isValue_any _ _ HV.out).mono ?_; rintro e w' ⟨rfl, rfl⟩))
    go_ret
    exact ⟨by simp, rfl⟩
  cases b
  · cases h4 : v.toList.isEmpty
    · go_enter Try.func98, Try.ntmps98
      go_wp2_with (first | (go_at_call 97; refine (isValue_any _ _ HV.out).mono ?_; rintro e w' ⟨rfl, rfl⟩))
      go_ret
      exact ⟨by simp, rfl⟩
    · go_enter Try.func98, Try.ntmps98
      go_wp2_with (first | (go_at_call 97; refine (isValue_any _ _ HV.out).mono ?_; rintro e w' ⟨rfl, rfl⟩))
      go_ret
      exact ⟨by simp, rfl⟩
  · go_enter Try.func98, Try.ntmps98
    go_wp2_with (first | (go_at_call 97; refine (isValue_any _ _ HV.out).mono ?_; rintro e w' ⟨rfl, rfl⟩))
    go_ret
    exact ⟨by simp, rfl⟩
end Go.Proofs.Ytaofolbnommpgaa
/- Registers: the program's tests on ops: isRegOp, isTimed, isBusy. -/
namespace Go.Proofs.Ytaofolbnommpgaa
open Go.RowKit
set_option linter.unusedVariables false

/-- What isTimed asks. -/
def tmdP (ck x3 x8 x9 : Int) : Prop := (0 ≤ x8 ∧ x8 ≤ ck - 1) ∧ (x3 = 3 → x8 + 1 ≤ x9 ∧ x9 ≤ ck - 1) ∧ (x3 ≠ 3 → x9 = 0)
set_option maxHeartbeats 1000000 in
theorem isTimed_n (x0 : Int) (x1 : Bool) (x2 : ByteArray) (x3 : Int) (a : Option Addr) (n k : Nat) (x5 x6 : Int) (x7 : ByteArray) (x8 x9 ck : Int) (w : World) (h0 : 0 ≤ ck) (h1 : ck ≤ 1000) :
    Calls Try.prog 57 #[.agg #[.int .i64 x0, .bool x1, .string x2, .int .i64 x3, .slice a n k, .int .i64 x5, .int .i64 x6, .string x7, .int .i64 x8, .int .i64 x9], .int .i64 ck] w fun r w' => r = .returned (.bool (tf (tmdP ck x3 x8 x9))) ∧ Below w.heap.size w w' := by
  cases h3 : inR x8 0 (ck - 1)
  · have HN : Hid (tf (tmdP ck x3 x8 x9) = false) := tf_no (fun q => by rw [inR_iff.2 q.1] at h3; cases h3)
    go_enter Try.func57, Try.ntmps57
    go_wp2_with (first | (go_at_call 54; refine (inRange_any _ _ _ _).mono ?_; rintro e w' ⟨rfl, rfl⟩))
    go_ret
    exact ⟨ret_bool HN.out.symm, (by repeat (first | refine Below.setCell ?_ (by (try simp) <;> omega) _ | refine Below.alloc ?_ (by (try simp) <;> omega) _ | refine Below.drew ?_ | assumption | exact Below.refl _ _ | refine Below.trans ?_ (Below.mono (by assumption) (by (try simp) <;> omega))))⟩
  have hb := inR_iff.1 h3
  by_cases h4 : x3 = 3
  · have h4' : (x3 == 3) = true := by simpa using h4
    have HN : Hid (tf (tmdP ck x3 x8 x9) = inR x9 (x8 + 1) (ck - 1)) := by
      show tf (tmdP ck x3 x8 x9) = inR x9 (x8 + 1) (ck - 1)
      rw [Bool.eq_iff_iff, tf_iff, inR_iff]
      exact ⟨fun q => q.2.1 h4, fun q => ⟨hb, fun _ => q, fun q2 => absurd h4 q2⟩⟩
    clear h4
    go_enter Try.func57, Try.ntmps57
    go_wp2_with (first | (go_at_call 54; refine (inRange_any _ _ _ _).mono ?_; rintro e w' ⟨rfl, rfl⟩))
    go_ret
    exact ⟨ret_bool HN.out.symm, (by repeat (first | refine Below.setCell ?_ (by (try simp) <;> omega) _ | refine Below.alloc ?_ (by (try simp) <;> omega) _ | refine Below.drew ?_ | assumption | exact Below.refl _ _ | refine Below.trans ?_ (Below.mono (by assumption) (by (try simp) <;> omega))))⟩
  · have h4' : (x3 == 3) = false := by simpa using h4
    have HN : Hid (tf (tmdP ck x3 x8 x9) = decide (x9 = 0)) := by
      show tf (tmdP ck x3 x8 x9) = decide (x9 = 0)
      rw [Bool.eq_iff_iff, tf_iff, decide_eq_true_iff]
      exact ⟨fun q => q.2.2 h4, fun q => ⟨hb, fun q2 => absurd q2 h4, fun _ => q⟩⟩
    clear h4
    go_enter Try.func57, Try.ntmps57
    go_wp2_with (first | (go_at_call 54; refine (inRange_any _ _ _ _).mono ?_; rintro e w' ⟨rfl, rfl⟩))
    go_ret
    exact ⟨ret_bool (by rw [HN.out]; by_cases e : x9 = 0 <;> simp [e]), (by repeat (first | refine Below.setCell ?_ (by (try simp) <;> omega) _ | refine Below.alloc ?_ (by (try simp) <;> omega) _ | refine Below.drew ?_ | assumption | exact Below.refl _ _ | refine Below.trans ?_ (Below.mono (by assumption) (by (try simp) <;> omega))))⟩

/-- What isRegOp asks. -/
def ropP (nc : Int) (x0 : Int) (x1 : Bool) (x2 : ByteArray) (x3 : Int) (x4 : List Int) (x5 x6 : Int) (x7 : ByteArray) : Prop :=
  (0 ≤ x0 ∧ x0 ≤ 9) ∧ opV x1 x2 = true ∧ (1 ≤ x3 ∧ x3 ≤ 3) ∧ (x3 = 3 → x4.length = 0) ∧ grB (atI x4) x4.length nc = true ∧ imB (atI x4) x4.length nc = false ∧ copP x5 x6 x7
theorem op_parts {ck nc : Int} (hnc : 1 ≤ nc ∧ nc ≤ 12) {x0 : Int} {x1 : Bool} {x2 : ByteArray} {x3 : Int} {x4 : List Int} {x5 x6 : Int} {x7 : ByteArray} {x8 x9 : Int} :
    opQ ck nc x0 x1 x2 x3 x4 x5 x6 x7 x8 x9 ↔ ropP nc x0 x1 x2 x3 x4 x5 x6 x7 ∧ tmdP ck x3 x8 x9 := by
  unfold opQ ropP tmdP
  rw [opV_iff]
  constructor
  · rintro ⟨h0, h1, h2, h3, h4, h5, h6, h7, h8, h9, h10⟩
    have hg : grB (atI x4) x4.length nc = true := grB_iff.2 ⟨hnc, h10⟩
    refine ⟨⟨h0, ⟨h1, h2⟩, h3, h7, hg, ?_, h4⟩, h5, h8, h9⟩
    unfold imB
    rw [hg]
    simp
    omega
  · rintro ⟨⟨h0, ⟨h1, h2⟩, h3, h7, hg, hm, h4⟩, h5, h8, h9⟩
    refine ⟨h0, h1, h2, h3, h4, h5, ?_, h7, h8, h9, (grB_iff.1 hg).2⟩
    unfold imB at hm
    rw [hg] at hm
    simp at hm
    omega

set_option maxRecDepth 100000 in
set_option maxHeartbeats 4000000 in
theorem isRegOp_n (x0 : Int) (x1 : Bool) (x2 : ByteArray) (x3 : Int) (x4 : List (Sh.T .int)) (a : Option Addr) (k : Nat) (x5 x6 : Int) (x7 : ByteArray) (x8 x9 nc : Int) (w : World) (h2 : x2.size ≤ maxLen) (h7 : x7.size ≤ maxLen) (hn : x4.length ≤ 1073741824) (h : Lies w (.list .int) [.slice a x4.length k] x4) :
    Calls Try.prog 56 #[.agg #[.int .i64 x0, .bool x1, .string x2, .int .i64 x3, .slice a x4.length k, .int .i64 x5, .int .i64 x6, .string x7, .int .i64 x8, .int .i64 x9], .int .i64 nc] w fun r w' => r = .returned (.bool (tf (ropP nc x0 x1 x2 x3 x4 x5 x6 x7))) ∧ Below w.heap.size w w' := by
  have HL : Hid (Lies w (.list .int) [.slice a x4.length k] x4 ∧ x2.size ≤ maxLen ∧ x7.size ≤ maxLen) := ⟨h, h2, h7⟩
  clear h h2 h7
  have HP : Hid (tf (ropP nc x0 x1 x2 x3 x4 x5 x6 x7) = (inR x0 0 9 && (opV x1 x2 && (inR x3 1 3 && ((!(x3 == 3) || decide (x4.length = 0)) && (grB (atI x4) x4.length nc && (!imB (atI x4) x4.length nc && tf (copP x5 x6 x7)))))))) := by
    show tf (ropP nc x0 x1 x2 x3 x4 x5 x6 x7) = _
    rw [Bool.eq_iff_iff, tf_iff]
    simp only [Bool.and_eq_true, inR_iff, tf_iff, ropP, Bool.or_eq_true, Bool.not_eq_true', beq_eq_false_iff_ne, decide_eq_true_eq]
    constructor
    · rintro ⟨q0, q1, q2, q3, q4, q5, q6⟩
      exact ⟨q0, q1, q2, by by_cases e : x3 = 3; exact Or.inr (q3 e); exact Or.inl e, q4, q5, q6⟩
    · rintro ⟨q0, q1, q2, q3, q4, q5, q6⟩
      exact ⟨q0, q1, q2, fun e => q3.elim (fun q => absurd e q) id, q4, q5, q6⟩
  cases c0 : inR x0 0 9
  · rw [c0] at HP
    go_enter Try.func56, Try.ntmps56
    go_wp2_with (first | (go_at_call 54; refine (inRange_any _ _ _ _).mono ?_; rintro e w' ⟨rfl, rfl⟩))
    go_ret
    exact ⟨ret_bool (by rw [HP.out]; simp), (by repeat (first | refine Below.setCell ?_ (by (try simp) <;> omega) _ | refine Below.alloc ?_ (by (try simp) <;> omega) _ | refine Below.drew ?_ | assumption | exact Below.refl _ _ | refine Below.trans ?_ (Below.mono (by assumption) (by (try simp) <;> omega))))⟩
  cases c1 : opV x1 x2
  · rw [c0, c1] at HP
    go_enter Try.func56, Try.ntmps56
    go_wp2_with (first | (go_at_call 54; refine (inRange_any _ _ _ _).mono ?_; rintro e w' ⟨rfl, rfl⟩) | (go_at_call 98; refine (isOpValue_n _ _ _ HL.out.2.1).mono ?_; rintro e w' ⟨rfl, rfl⟩))
    go_ret
    exact ⟨ret_bool (by rw [HP.out]; simp), (by repeat (first | refine Below.setCell ?_ (by (try simp) <;> omega) _ | refine Below.alloc ?_ (by (try simp) <;> omega) _ | refine Below.drew ?_ | assumption | exact Below.refl _ _ | refine Below.trans ?_ (Below.mono (by assumption) (by (try simp) <;> omega))))⟩
  cases c2 : inR x3 1 3
  · rw [c0, c1, c2] at HP
    go_enter Try.func56, Try.ntmps56
    go_wp2_with (first | (go_at_call 54; refine (inRange_any _ _ _ _).mono ?_; rintro e w' ⟨rfl, rfl⟩) | (go_at_call 98; refine (isOpValue_n _ _ _ HL.out.2.1).mono ?_; rintro e w' ⟨rfl, rfl⟩))
    go_ret
    exact ⟨ret_bool (by rw [HP.out]; simp), (by repeat (first | refine Below.setCell ?_ (by (try simp) <;> omega) _ | refine Below.alloc ?_ (by (try simp) <;> omega) _ | refine Below.drew ?_ | assumption | exact Below.refl _ _ | refine Below.trans ?_ (Below.mono (by assumption) (by (try simp) <;> omega))))⟩
  by_cases c3 : x3 = 3 ∧ 0 < x4.length
  · have c3a : (x3 == 3) = true := by simpa using c3.1
    have c3b : (0 : Int) < (x4.length : Int) := by omega
    have HN : Hid (tf (ropP nc x0 x1 x2 x3 x4 x5 x6 x7) = false) := by
      show tf (ropP nc x0 x1 x2 x3 x4 x5 x6 x7) = false
      exact tf_no (fun q => by have := q.2.2.2.1 c3.1; omega)
    clear c3
    go_enter Try.func56, Try.ntmps56
    go_wp2_with (first | (go_at_call 54; refine (inRange_any _ _ _ _).mono ?_; rintro e w' ⟨rfl, rfl⟩) | (go_at_call 98; refine (isOpValue_n _ _ _ HL.out.2.1).mono ?_; rintro e w' ⟨rfl, rfl⟩))
    go_ret
    exact ⟨ret_bool HN.out.symm, (by repeat (first | refine Below.setCell ?_ (by (try simp) <;> omega) _ | refine Below.alloc ?_ (by (try simp) <;> omega) _ | refine Below.drew ?_ | assumption | exact Below.refl _ _ | refine Below.trans ?_ (Below.mono (by assumption) (by (try simp) <;> omega))))⟩
  have HC : Hid ((!(x3 == 3) || decide (x4.length = 0)) = true) := by
    show (!(x3 == 3) || decide (x4.length = 0)) = true
    by_cases e : x3 = 3
    · have : x4.length = 0 := by
        rcases Nat.eq_zero_or_pos x4.length with q | q
        · exact q
        · exact absurd ⟨e, q⟩ c3
      simp [this]
    · simp [e]
  rw [c0, c1, c2, HC.out] at HP
  have HB0 : Hid (Below w.heap.size w (w.alloc (.cells #[.int .i64 x0, .bool x1, .string x2, .int .i64 x3, .slice a x4.length k, .int .i64 x5, .int .i64 x6, .string x7, .int .i64 x8, .int .i64 x9] 53)) ∧ Bx (w.alloc (.cells #[.int .i64 x0, .bool x1, .string x2, .int .i64 x3, .slice a x4.length k, .int .i64 x5, .int .i64 x6, .string x7, .int .i64 x8, .int .i64 x9] 53)) w.heap.size [.int .i64 x0, .bool x1, .string x2, .int .i64 x3, .slice a x4.length k, .int .i64 x5, .int .i64 x6, .string x7, .int .i64 x8, .int .i64 x9]) := ⟨Go.Joins.below_alloc1 _ _, Bx.new w [_, _, _, _, _, _, _, _, _, _] _⟩
  by_cases c4 : x3 = 3
  case' pos =>
    have c4a : (x3 == 3) = true := by simpa using c4
    have c4b : ¬ (0 : Int) < (x4.length : Int) := by
      intro q
      exact c3 ⟨c4, by omega⟩
  case' neg =>
    have c4a : (x3 == 3) = false := by simpa using c4
  all_goals
    clear c3 c4
    go_enter Try.func56, Try.ntmps56
    go_wp2_with (first | (go_at_call 54; refine (inRange_any _ _ _ _).mono ?_; rintro e w' ⟨rfl, rfl⟩) | (go_at_call 98; refine (isOpValue_n _ _ _ HL.out.2.1).mono ?_; rintro e w' ⟨rfl, rfl⟩))
    refine (isMajority_any _ _ _ (atI x4) nc _ hn (lies_sl (HL.out.1.next HB0.out.1))).mono ?_
    rintro r w1 ⟨rfl, hb⟩
    have HB1 : Hid (Below w.heap.size w w1) := HB0.out.1.trans (hb.mono HB0.out.1.size)
    have bx := HB0.out.2.next hb
    have d5 := bx.cell 5 rfl
    have d6 := bx.cell 6 rfl
    have d7 := bx.cell 7 rfl
    have dz := bx.2
    clear bx hb HB0
    cases e1 : grB (atI x4) x4.length nc
    · rw [e1] at HP
      clear e1
      go_wp2
      go_ret
      exact ⟨ret_bool (by rw [HP.out]; simp), HB1.out⟩
    cases e2 : imB (atI x4) x4.length nc
    case' true =>
      rw [e1, e2] at HP
      clear e1 e2
      go_wp2
      go_ret
      exact ⟨ret_bool (by rw [HP.out]; simp), HB1.out⟩
    rw [e1, e2] at HP
    clear e1 e2
    go_wp2_with fail
    refine (isCopy_n _ _ _ _ HL.out.2.2).mono ?_
    rintro r w2 ⟨rfl, hb⟩
    have HB2 : Hid (Below w.heap.size w w2) := HB1.out.trans (hb.mono HB1.out.size)
    clear hb
    generalize tf (copP x5 x6 x7) = z at *
    go_wp2
    go_ret
    exact ⟨ret_bool (by rw [HP.out]; simp), HB2.out⟩
end Go.Proofs.Ytaofolbnommpgaa
/- Registers: isBusy, timesOf, areUnlike; slices.Contains at numbers. -/
namespace Go.Proofs.Ytaofolbnommpgaa
open Go.RowKit
set_option linter.unusedVariables false

def bsyP (l : List (Sh.T shRegOp)) (c : Int) : Prop := ∃ o ∈ l, RgO.cl o = c ∧ RgO.ph o ≠ 3

set_option maxRecDepth 100000 in
set_option maxHeartbeats 2000000 in
theorem isBusy_n (a : Option Addr) (cap : Nat) (l : List (Sh.T shRegOp)) (c : Int) (w : World) (hn : l.length ≤ 1000) (h : Lies w (.list shRegOp) [.slice a l.length cap] l) :
    Calls Try.prog 58 #[.slice a l.length cap, .int .i64 c] w fun r w' => r = .returned (.bool (tf (bsyP l c))) ∧ Below w.heap.size w w' := by
  have HL : Hid (Lies w (.list shRegOp) [.slice a l.length cap] l) := h
  clear h
  obtain ⟨n, hnn⟩ : ∃ n, n = l.length := ⟨_, rfl⟩
  have HN : Hid (n = l.length) := hnn
  rw [← hnn] at hn ⊢
  clear hnn
  go_enter Try.func58, Try.ntmps58
  go_wp2
  go_loopw [9] (fun i wr => ∃ k : Nat, k ≤ n ∧ i = .int .i64 k ∧ (∀ o ∈ l.take k, ¬ (RgO.cl o = c ∧ RgO.ph o ≠ 3)) ∧ Below w.heap.size w wr) (fun i _ => n - (intOf i).toNat)
  case atStart => exact ⟨0, Nat.zero_le _, rfl, fun o ho => by simp at ho, Below.refl _ _⟩
  case round =>
    obtain ⟨k, hk, rfl, hno, hBr⟩ := hrel
    by_cases hlt : k < n
    · have hlx : k < l.length := by have := HN.out; omega
      have hlt' : (k : Int) < (n : Int) := by omega
      obtain ⟨xg, xoff, xgo, xgs, xec, xel, xhec, xle⟩ := Lies.elem (HL.out.next hBr) hlx
      subst xgo
      rcases xX : l[k] with ⟨x0, x1, x2, x3, x4, ⟨x5, x6, x7, ⟨⟩⟩, x8, x9, ⟨⟩⟩
      rw [xX] at xle
      have xH : Hid (l[k] = (x0, x1, x2, x3, x4, (x5, x6, x7, ()), x8, x9, ())) := xX
      clear xX
      obtain ⟨xa1, xk1, xev, xq1⟩ := lies_RegOp xle
      subst xev
      have xc0 : wr.cell? ⟨xg, xoff + k * 10, none⟩ = some (.int .i64 x0) := xhec 0 (by simp)
      have xc1 : wr.cell? ⟨xg, xoff + k * 10 + 1, none⟩ = some (.bool x1) := xhec 1 (by simp)
      have xc2 : wr.cell? ⟨xg, xoff + k * 10 + 2, none⟩ = some (.string x2) := xhec 2 (by simp)
      have xc3 : wr.cell? ⟨xg, xoff + k * 10 + 3, none⟩ = some (.int .i64 x3) := xhec 3 (by simp)
      have xc4 : wr.cell? ⟨xg, xoff + k * 10 + 4, none⟩ = some (.slice xa1 x4.length xk1) := xhec 4 (by simp)
      have xc5 : wr.cell? ⟨xg, xoff + k * 10 + 5, none⟩ = some (.int .i64 x5) := xhec 5 (by simp)
      have xc6 : wr.cell? ⟨xg, xoff + k * 10 + 6, none⟩ = some (.int .i64 x6) := xhec 6 (by simp)
      have xc7 : wr.cell? ⟨xg, xoff + k * 10 + 7, none⟩ = some (.string x7) := xhec 7 (by simp)
      have xc8 : wr.cell? ⟨xg, xoff + k * 10 + 8, none⟩ = some (.int .i64 x8) := xhec 8 (by simp)
      have xc9 : wr.cell? ⟨xg, xoff + k * 10 + 9, none⟩ = some (.int .i64 x9) := xhec 9 (by simp)
      clear xhec xel xle
      have HB : Hid (Below w.heap.size w wr ∧ ∀ o ∈ l.take k, ¬ (RgO.cl o = c ∧ RgO.ph o ≠ 3)) := ⟨hBr, hno⟩
      clear hBr hno xq1
      by_cases e1 : x0 = c
      · have e1' : (x0 == c) = true := by simpa using e1
        by_cases e2 : x3 = 3
        · have e2' : (x3 != 3) = false := by simpa using e2
          have HS : Hid (¬ (RgO.cl l[k] = c ∧ RgO.ph l[k] ≠ 3)) := Hid.intro (fun q => by have := q.2; rw [xH.out] at this; exact this e2)
          clear e1 e2
          go_wp2
          go_roundw
          case rel => exact ⟨k + 1, by omega, by go_num, mem_take_succ hlx HB.out.2 HS.out, HB.out.1.alloc HB.out.1.size _⟩
          case measure => simp [intOf]; omega
        · have e2' : (x3 != 3) = true := by simpa using e2
          have HS : Hid (tf (bsyP l c) = true) := Hid.intro (tf_yes ⟨l[k], List.getElem_mem hlx, by rw [xH.out]; exact e1, by rw [xH.out]; exact e2⟩)
          clear e1 e2
          go_wp2
          go_ret
          exact ⟨ret_bool HS.out.symm, HB.out.1.alloc HB.out.1.size _⟩
      · have e1' : (x0 == c) = false := by simpa using e1
        have HS : Hid (¬ (RgO.cl l[k] = c ∧ RgO.ph l[k] ≠ 3)) := Hid.intro (fun q => by have := q.1; rw [xH.out] at this; exact e1 this)
        clear e1
        go_wp2
        go_roundw
        case rel => exact ⟨k + 1, by omega, by go_num, mem_take_succ hlx HB.out.2 HS.out, HB.out.1.alloc HB.out.1.size _⟩
        case measure => simp [intOf]; omega
    · have hkn : k = n := by omega
      have HS : Hid (tf (bsyP l c) = false) := Hid.intro (tf_no (fun ⟨o, ho, q⟩ => hno o (by rw [hkn, HN.out, List.take_length]; exact ho) q))
      have HB : Hid (Below w.heap.size w wr) := hBr
      clear hno hBr hkn
      go_wp2
      go_ret
      exact ⟨ret_bool HS.out.symm, HB.out⟩

set_option maxRecDepth 100000 in
set_option maxHeartbeats 2000000 in
theorem indexInt_n (a : Option Addr) (cap : Nat) (l : List (Sh.T .int)) (c : Int) (w : World) (hn : l.length ≤ 1073741824) (h : Lies w (.list .int) [.slice a l.length cap] l) :
    Calls Try.prog 119 #[.slice a l.length cap, .int .i64 c] w fun r w' => (∃ x : Int, r = .returned (.int .i64 x) ∧ (0 ≤ x ↔ c ∈ l)) ∧ w' = w := by
  have HL : Hid (Lies w (.list .int) [.slice a l.length cap] l) := h
  clear h
  obtain ⟨n, hnn⟩ : ∃ n, n = l.length := ⟨_, rfl⟩
  have HN : Hid (n = l.length) := hnn
  rw [← hnn] at hn ⊢
  clear hnn
  go_enter Try.func119, Try.ntmps119
  go_wp2
  go_loopw [8] (fun i wr => ∃ k : Nat, k ≤ n ∧ i = .int .i64 k ∧ (∀ o ∈ l.take k, o ≠ c) ∧ wr = w) (fun i _ => n - (intOf i).toNat)
  case atStart => exact ⟨0, Nat.zero_le _, rfl, fun o ho => by simp at ho, rfl⟩
  case round =>
    obtain ⟨k, hk, rfl, hno, rfl⟩ := hrel
    have HO : Hid (∀ o ∈ l.take k, o ≠ c) := hno
    clear hno
    by_cases hlt : k < n
    · have hlx : k < l.length := by have := HN.out; omega
      have hlt' : (k : Int) < (n : Int) := by omega
      obtain ⟨g, off, hgo, hgs, ec, hel, hec, hle⟩ := Lies.elem HL.out hlx
      subst hgo
      have hev : ec = [.int .i64 l[k]] := hle
      subst hev
      have c0 : wr.cell? ⟨g, off + k, none⟩ = some (.int .i64 l[k]) := by have := hec 0 (by simp); simpa [Sh.c] using this
      clear hec hel hle
      obtain ⟨y, hy⟩ : ∃ y, y = l[k] := ⟨_, rfl⟩
      have HY : Hid (y = l[k]) := hy
      rw [← hy] at c0
      clear hy
      by_cases e : c = y
      · have e' : (c == y) = true := by simpa using e
        have HS : Hid (0 ≤ (k : Int) ↔ c ∈ l) := Hid.intro ⟨fun _ => by rw [e, HY.out]; exact List.getElem_mem hlx, fun _ => by omega⟩
        clear e
        go_wp2
        go_ret
        exact ⟨⟨_, rfl, HS.out⟩, rfl⟩
      · have e' : (c == y) = false := by simpa using e
        have HS : Hid (l[k] ≠ c) := Hid.intro (fun q => e (by rw [HY.out, q]))
        clear e
        go_wp2
        go_roundw
        case rel => exact ⟨k + 1, by omega, by go_num, mem_take_succ hlx HO.out HS.out, trivial⟩
        case measure => simp [intOf]; omega
    · have hkn : k = n := by omega
      have HS : Hid (0 ≤ (-1 : Int) ↔ c ∈ l) := Hid.intro ⟨fun q => absurd q (by decide), fun q => absurd rfl (HO.out c (by rw [hkn, HN.out, List.take_length]; exact q))⟩
      clear hkn
      go_wp2
      go_ret
      exact ⟨⟨_, rfl, HS.out⟩, rfl⟩

set_option maxHeartbeats 2000000 in
theorem containsInt_n (a : Option Addr) (cap : Nat) (l : List (Sh.T .int)) (c : Int) (w : World) (hn : l.length ≤ 1073741824) (h : Lies w (.list .int) [.slice a l.length cap] l) :
    Calls Try.prog 100 #[.slice a l.length cap, .int .i64 c] w fun r w' => r = .returned (.bool (tf (c ∈ l))) ∧ w' = w := by
  go_enter Try.func100, Try.ntmps100
  go_wp2_with fail
  refine (indexInt_n a cap l c _ hn h).mono ?_
  rintro r w1 ⟨⟨x, rfl, hx⟩, hw⟩
  have hw := hw.symm
  subst hw
  have HX : Hid (0 ≤ x ↔ c ∈ l) := hx
  clear hx
  go_wp2
  go_ret
  exact ⟨ret_bool (by rw [Bool.eq_iff_iff, tf_iff, ← HX.out]; simp), rfl⟩

set_option maxRecDepth 100000 in
set_option maxHeartbeats 2000000 in
theorem areUnlike_n (a : Option Addr) (cap : Nat) (l : List (Sh.T .int)) (w : World) (hn : l.length ≤ 1000) (hc : l.length ≤ cap) (hc2 : cap ≤ 9223372036854775807) (h : Lies w (.list .int) [.slice a l.length cap] l) :
    Calls Try.prog 59 #[.slice a l.length cap] w fun r w' => r = .returned (.bool (tf l.Nodup)) ∧ w' = w := by
  have HL : Hid (Lies w (.list .int) [.slice a l.length cap] l) := h
  clear h
  obtain ⟨n, hnn⟩ : ∃ n, n = l.length := ⟨_, rfl⟩
  have HN : Hid (n = l.length) := hnn
  rw [← hnn] at hn hc ⊢
  clear hnn
  go_enter Try.func59, Try.ntmps59
  go_wp2
  go_loopw [7] (fun i wr => ∃ k : Nat, k ≤ n ∧ i = .int .i64 k ∧ (l.take k).Nodup ∧ wr = w) (fun i _ => n - (intOf i).toNat)
  case atStart => exact ⟨0, Nat.zero_le _, rfl, by simp, rfl⟩
  case round =>
    obtain ⟨k, hk, rfl, hnd, rfl⟩ := hrel
    have HO : Hid ((l.take k).Nodup) := hnd
    clear hnd
    by_cases hlt : k < n
    · have hlx : k < l.length := by have := HN.out; omega
      have hlt' : (k : Int) < (n : Int) := by omega
      obtain ⟨g, off, hgo, hgs, ec, hel, hec, hle⟩ := Lies.elem HL.out hlx
      subst hgo
      have hev : ec = [.int .i64 l[k]] := hle
      subst hev
      have c0 : wr.cell? ⟨g, off + k, none⟩ = some (.int .i64 l[k]) := by have := hec 0 (by simp); simpa [Sh.c] using this
      clear hec hel hle
      obtain ⟨y, hy⟩ : ∃ y, y = l[k] := ⟨_, rfl⟩
      have HY : Hid (y = l[k]) := hy
      rw [← hy] at c0
      clear hy
      have htl : (l.take k).length = k := by rw [List.length_take]; omega
      have HT : Hid (Lies wr (.list .int) [.slice (some ⟨g, off, none⟩) (l.take k).length cap] (l.take k) ∧ (l.take k).length ≤ 1073741824) := ⟨by rw [htl]; exact HL.out.take k (by omega), by omega⟩
      have HTL : Hid ((l.take k).length = k) := htl
      clear htl
      have HCC : Hid (∀ W, W = wr → Calls Try.prog 100 #[.slice (some ⟨g, off, none⟩) k cap, .int .i64 y] W fun r w' => r = .returned (.bool (tf (y ∈ l.take k))) ∧ w' = W) := Hid.intro (fun W hW => by
        subst hW
        have := containsInt_n (some ⟨g, off, none⟩) cap (l.take k) y W HT.out.2 HT.out.1
        rwa [HTL.out] at this)
      go_wp2_with fail
      refine (HCC.out _ rfl).mono ?_
      rintro r w1 ⟨rfl, hw⟩
      have hw := hw.symm
      subst hw
      by_cases e : y ∈ l.take k
      · rw [tf_yes e]
        have HS : Hid (tf l.Nodup = false) := Hid.intro (tf_no (fun q => pair_take_no (R := (· ≠ ·)) hlx e (fun q2 => q2 HY.out) q))
        go_wp2
        go_ret
        exact ⟨ret_bool HS.out.symm, rfl⟩
      · rw [tf_no e]
        have HS : Hid ((l.take (k + 1)).Nodup) := Hid.intro (pair_take_succ (R := (· ≠ ·)) hlx HO.out (fun o ho q => e (by rw [HY.out, ← q]; exact ho)))
        clear e
        go_wp2
        go_roundw
        case rel => exact ⟨k + 1, by omega, by go_num, HS.out, trivial⟩
        case measure => simp [intOf]; omega
    · have hkn : k = n := by omega
      have HS : Hid (tf l.Nodup = true) := Hid.intro (tf_yes (by have := HO.out; rwa [hkn, HN.out, List.take_length] at this))
      clear hkn
      go_wp2
      go_ret
      exact ⟨ret_bool HS.out.symm, rfl⟩
end Go.Proofs.Ytaofolbnommpgaa
