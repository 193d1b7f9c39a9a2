/- The contracts of clashes, areLocks and l3Hold. -/
import Derived.Test.YthbpjmnlgfahmaaTpG
import Derived.Test.YthbpjmnlgfahmaaOpS
import Derived.Test.YthbpjmnlgfahmaaRowS
namespace Go.Proofs.Ythbpjmnlgfahmaa
open Go.RowKit
set_option linter.unusedVariables false

theorem lkO_no {K L : Nat → Int} {n n' k : Nat} (hk : k < n) (h : lkB K L n k = false) : lkO K L n n' = false := by
  unfold lkO; exact @decide_eq_false _ (Classical.propDecidable _) (fun g => by have := g.2 k hk; rw [h] at this; cases this)
theorem lkO_len {K L : Nat → Int} {n n' : Nat} (h : ¬ n' = n) : lkO K L n n' = false := by
  unfold lkO; exact @decide_eq_false _ (Classical.propDecidable _) (fun g => h g.1)
theorem lkO_yes {K L : Nat → Int} {n n' : Nat} (h : lkP K L n n') : lkO K L n n' = true := by
  unfold lkO; exact @decide_eq_true _ (Classical.propDecidable _) h
theorem mB_no1 {T : Nat → Int} {S : Nat → ByteArray} {k : Nat} {t : Int} {s : ByteArray} (h : (T k != t) = true) : mB T S k t s = false := by
  have : T k ≠ t := by simpa using h
  simp [mB, this]
theorem mB_no2 {T : Nat → Int} {S : Nat → ByteArray} {k : Nat} {t : Int} {s : ByteArray} (h : ((S k).toList == s.toList) = false) : mB T S k t s = false := by simp only [mB, h, Bool.and_false]
theorem mB_yes {T : Nat → Int} {S : Nat → ByteArray} {k : Nat} {t : Int} {s : ByteArray} (h1 : (T k != t) = false) (h : ((S k).toList == s.toList) = true) : mB T S k t s = true := by
  have : T k = t := by simpa using h1
  rw [mB, h, this]; simp
def hoV (x : Ho) : Value := .agg #[.int .i64 x.t, .string x.s, .int .i64 x.f, .int .i64 x.z, .bool x.w]
set_option maxRecDepth 100000 in
set_option maxHeartbeats 4000000 in
theorem clashes_any (x y : Ho) (w : World) :
    Calls Try.prog 71 #[.agg #[.int .i64 x.t, .string x.s, .int .i64 x.f, .int .i64 x.z, .bool x.w], .agg #[.int .i64 y.t, .string y.s, .int .i64 y.f, .int .i64 y.z, .bool y.w]] w fun r w' => r = .returned (.bool (clH x y)) ∧ Below w.heap.size w w' := by
  obtain ⟨t, s, f, z, b⟩ := x
  obtain ⟨t', s', f', z', b'⟩ := y
  have HC : Hid (clH ⟨t, s, f, z, b⟩ ⟨t', s', f', z', b'⟩ = ((t != t') && ((s.toList == s'.toList) && (decide (f ≤ z') && (decide (f' ≤ z) && (b || b')))))) := rfl
  dsimp only
  cases h1 : (t != t')
  · skip
    go_enter Try.func71, Try.ntmps71
    go_wp2
    go_ret
    exact ⟨ret_bool (by rw [HC.out]; simp [h1]), (by repeat (first | refine Below.setCell ?_ (by (try simp) <;> omega) _ | refine Below.alloc ?_ (by (try simp) <;> omega) _ | refine Below.drew ?_ | assumption | exact Below.refl _ _ | refine Below.trans ?_ (Below.mono (by assumption) (by (try simp) <;> omega))))⟩
  cases h2 : (s.toList == s'.toList)
  · skip
    go_enter Try.func71, Try.ntmps71
    go_wp2
    go_ret
    exact ⟨ret_bool (by rw [HC.out]; simp [h1, h2]), (by repeat (first | refine Below.setCell ?_ (by (try simp) <;> omega) _ | refine Below.alloc ?_ (by (try simp) <;> omega) _ | refine Below.drew ?_ | assumption | exact Below.refl _ _ | refine Below.trans ?_ (Below.mono (by assumption) (by (try simp) <;> omega))))⟩
  by_cases h3 : f ≤ z'
  case neg =>
    go_enter Try.func71, Try.ntmps71
    go_wp2
    go_ret
    exact ⟨ret_bool (by rw [HC.out]; simp [h1, h2, show decide (f ≤ z') = false from decide_eq_false (by omega)]), (by repeat (first | refine Below.setCell ?_ (by (try simp) <;> omega) _ | refine Below.alloc ?_ (by (try simp) <;> omega) _ | refine Below.drew ?_ | assumption | exact Below.refl _ _ | refine Below.trans ?_ (Below.mono (by assumption) (by (try simp) <;> omega))))⟩
  by_cases h4 : f' ≤ z
  case neg =>
    go_enter Try.func71, Try.ntmps71
    go_wp2
    go_ret
    exact ⟨ret_bool (by rw [HC.out]; simp [h1, h2, show decide (f' ≤ z) = false from decide_eq_false (by omega)]), (by repeat (first | refine Below.setCell ?_ (by (try simp) <;> omega) _ | refine Below.alloc ?_ (by (try simp) <;> omega) _ | refine Below.drew ?_ | assumption | exact Below.refl _ _ | refine Below.trans ?_ (Below.mono (by assumption) (by (try simp) <;> omega))))⟩
  cases b <;> cases b'
  all_goals
    go_enter Try.func71, Try.ntmps71
    go_wp2
    go_ret
    exact ⟨ret_bool (by rw [HC.out]; simp [h1, h2, h3, h4]), (by repeat (first | refine Below.setCell ?_ (by (try simp) <;> omega) _ | refine Below.alloc ?_ (by (try simp) <;> omega) _ | refine Below.drew ?_ | assumption | exact Below.refl _ _ | refine Below.trans ?_ (Below.mono (by assumption) (by (try simp) <;> omega))))⟩

set_option maxRecDepth 100000 in
set_option maxHeartbeats 4000000 in
theorem areLocks_any (a : Option Addr) (n cap : Nat) (K T : Nat → Int) (S : Nat → ByteArray) (a' : Option Addr) (n' cap' : Nat) (L : Nat → Int) (w : World) (hn : n ≤ 1048576) (hn' : n' ≤ 1048576) (hs : Sl w a n 3 (opF K T S)) (hl : Sl w a' n' 1 (intF L)) :
    Calls Try.prog 69 #[.slice a n cap, .slice a' n' cap'] w fun r w' => r = .returned (.bool (lkO K L n n')) ∧ Below w.heap.size w w' := by
  by_cases hnn : n' = n
  case neg =>
    have hne : ¬ (n' : Int) = (n : Int) := by omega
    have HN : Hid (lkO K L n n' = false) := lkO_len hnn
    clear hs hl hnn
    go_enter Try.func69, Try.ntmps69
    go_wp2
    go_ret
    exact ⟨ret_bool HN.out.symm, Below.refl _ _⟩
  subst hnn
  have HS : Hid (Sl w a n' 3 (opF K T S) ∧ Sl w a' n' 1 (intF L)) := ⟨hs, hl⟩
  clear hs hl
  go_enter Try.func69, Try.ntmps69
  go_wp2
  go_loopw [16] (fun i wr => ∃ k : Nat, k ≤ n' ∧ i = .int .i64 k ∧ (∀ i, i < k → lkB K L n' i = true) ∧ Below w.heap.size w wr) (fun i _ => n' - (intOf i).toNat)
  case atStart => exact ⟨0, Nat.zero_le _, rfl, fun i hi => absurd hi (by omega), Below.refl _ _⟩
  case round =>
    obtain ⟨k, hk, rfl, hall, hBr⟩ := hrel
    by_cases hlt : k < n'
    · rcases HS.out.1.below hBr (Nat.le_refl _) with h | ⟨b, off, rfl, hbs, hE⟩
      · omega
      rcases HS.out.2.below hBr (Nat.le_refl _) with h | ⟨b', off', rfl, hbs', hE'⟩
      · omega
      have hlt' : (k : Int) < (n' : Int) := by omega
      obtain ⟨c0, c1, c2⟩ := op_cells hE hlt
      have d0 := int_cell hE' hlt
      have hz : w.heap.size ≤ wr.heap.size := hBr.size
      have HH : Hid ((∀ i, i < k → lkB K L n' i = true) ∧ Below w.heap.size w wr) := ⟨hall, hBr⟩
      clear hall hBr hE hE'
      cases h3 : (K k == 3)
      · have HK : Hid (lkB K L n' k = inR (L k) (k : Int) ((n' : Int) - 1)) := by show _ = _; rw [lkB, if_neg (by simpa using h3)]
        cases hr : inR (L k) (k : Int) ((n' : Int) - 1)
        · have HN : Hid (lkO K L n' n' = false) := lkO_no hlt (HK.out.trans hr)
          go_wp2_with (go_at_call 60; refine (inRange_any _ _ _ _).mono ?_; rintro e w' ⟨rfl, rfl⟩)
          have hb := HH.out.2
          go_ret
          exact ⟨ret_bool HN.out.symm, (by repeat (first | refine Below.setCell ?_ (by (try simp) <;> omega) _ | refine Below.alloc ?_ (by (try simp) <;> omega) _ | refine Below.drew ?_ | assumption | exact Below.refl _ _ | refine Below.trans ?_ (Below.mono (by assumption) (by (try simp) <;> omega))))⟩
        · go_wp2_with (go_at_call 60; refine (inRange_any _ _ _ _).mono ?_; rintro e w' ⟨rfl, rfl⟩)
          go_roundw
          case rel => exact ⟨k + 1, by omega, by go_num, fun i hi => (Nat.lt_succ_iff_lt_or_eq.1 hi).elim (HH.out.1 i) (fun e => e ▸ HK.out.trans hr), HH.out.2.alloc hz _⟩
          case measure => simp [intOf]; omega
      · have HK : Hid (lkB K L n' k = inR (L k) 0 0) := by show _ = _; rw [lkB, if_pos (by simpa using h3)]
        cases hr : inR (L k) 0 0
        · have HN : Hid (lkO K L n' n' = false) := lkO_no hlt (HK.out.trans hr)
          go_wp2_with (go_at_call 60; refine (inRange_any _ _ _ _).mono ?_; rintro e w' ⟨rfl, rfl⟩)
          have hb := HH.out.2
          go_ret
          exact ⟨ret_bool HN.out.symm, (by repeat (first | refine Below.setCell ?_ (by (try simp) <;> omega) _ | refine Below.alloc ?_ (by (try simp) <;> omega) _ | refine Below.drew ?_ | assumption | exact Below.refl _ _ | refine Below.trans ?_ (Below.mono (by assumption) (by (try simp) <;> omega))))⟩
        · go_wp2_with (go_at_call 60; refine (inRange_any _ _ _ _).mono ?_; rintro e w' ⟨rfl, rfl⟩)
          go_roundw
          case rel => exact ⟨k + 1, by omega, by go_num, fun i hi => (Nat.lt_succ_iff_lt_or_eq.1 hi).elim (HH.out.1 i) (fun e => e ▸ HK.out.trans hr), HH.out.2.alloc hz _⟩
          case measure => simp [intOf]; omega
    · have hkn : k = n' := by omega
      subst hkn
      have HN : Hid (lkO K L k k = true) := lkO_yes ⟨rfl, hall⟩
      have HB : Hid (Below w.heap.size w wr) := hBr
      clear hall hBr
      go_wp2
      go_ret
      exact ⟨ret_bool HN.out.symm, HB.out⟩

def HoldPost (h : Int × Int × Bool) (w : World) (r : Ending) (w' : World) : Prop := (∃ b : Bool, r = .returned (.tuple #[.int .i64 h.1, .int .i64 h.2.1, .bool h.2.2, .bool b])) ∧ Below w.heap.size w w'
set_option maxRecDepth 100000 in
set_option maxHeartbeats 8000000 in
theorem l3Hold_any (a : Option Addr) (n cap : Nat) (K T : Nat → Int) (S : Nat → ByteArray) (a' : Option Addr) (cap' : Nat) (L : Nat → Int) (t : Int) (s : ByteArray) (w : World) (hn : n ≤ 1048576) (hs : Sl w a n 3 (opF K T S)) (hl : Sl w a' n 1 (intF L)) :
    Calls Try.prog 72 #[.slice a n cap, .slice a' n cap', .int .i64 t, .string s] w (HoldPost (hoN K T S L t s n) w) := by
  have HS : Hid (Sl w a n 3 (opF K T S) ∧ Sl w a' n 1 (intF L)) := ⟨hs, hl⟩
  clear hs hl
  go_enter Try.func72, Try.ntmps72
  go_wp2
  go_loopw [19, 12, 13, 14] (fun i fv zv bv wr => ∃ (k : Nat) (f z : Int) (b : Bool), k ≤ n ∧ i = .int .i64 k ∧ fv = .int .i64 f ∧ zv = .int .i64 z ∧ bv = .bool b ∧ hoN K T S L t s k = (f, z, b) ∧ Below w.heap.size w wr) (fun i _ _ _ _ => n - (intOf i).toNat)
  case atStart => exact ⟨0, -1, -1, false, Nat.zero_le _, rfl, rfl, rfl, rfl, rfl, Below.refl _ _⟩
  case round =>
    obtain ⟨k, f, z, b, hk, rfl, rfl, rfl, rfl, hh, hBr⟩ := hrel
    by_cases hlt : k < n
    · rcases HS.out.1.below hBr (Nat.le_refl _) with h | ⟨b1, off, rfl, hbs, hE⟩
      · omega
      rcases HS.out.2.below hBr (Nat.le_refl _) with h | ⟨b', off', rfl, hbs', hE'⟩
      · omega
      have hlt' : (k : Int) < (n : Int) := by omega
      obtain ⟨c0, c1, c2⟩ := op_cells hE hlt
      have d0 := int_cell hE' hlt
      have hz : w.heap.size ≤ wr.heap.size := hBr.size
      have HH : Hid (hoN K T S L t s k = (f, z, b) ∧ Below w.heap.size w wr) := ⟨hh, hBr⟩
      clear hh hBr hE hE'
      cases h1 : (T k != t)
      case true =>
        have HE : Hid (hoN K T S L t s (k + 1) = (f, z, b)) := (ho_no (mB_no1 h1)).trans HH.out.1
        go_wp2
        go_roundw
        case rel => exact ⟨k + 1, f, z, b, by omega, by go_num, rfl, rfl, rfl, HE.out, HH.out.2.alloc hz _⟩
        case measure => simp [intOf]; omega
      cases h2 : ((S k).toList == s.toList)
      case false =>
        have HE : Hid (hoN K T S L t s (k + 1) = (f, z, b)) := (ho_no (mB_no2 h2)).trans HH.out.1
        go_wp2
        go_roundw
        case rel => exact ⟨k + 1, f, z, b, by omega, by go_num, rfl, rfl, rfl, HE.out, HH.out.2.alloc hz _⟩
        case measure => simp [intOf]; omega
      have HE : Hid (hoN K T S L t s (k + 1) = (if f < 0 then (k : Int) else f, if z < L k then L k else z, b || K k == 2)) := by
        show _ = _
        rw [ho_yes (mB_yes h1 h2), HH.out.1]
      by_cases hf : f < 0 <;> by_cases hzl : z < L k <;> cases b <;> cases h4 : (K k == 2)
      all_goals
        have HG := HE.out
        simp only [hf, hzl, h4, if_true, if_false, Bool.or_true, Bool.or_false] at HG
        have HG' : Hid _ := HG
        clear HG
        go_wp2
        go_roundw
        (case rel => exact ⟨k + 1, _, _, _, by omega, by go_num, rfl, rfl, rfl, HG'.out, HH.out.2.alloc hz _⟩)
        (case measure => simp [intOf]; omega)
    · have hkn : k = n := by omega
      subst hkn
      have HH : Hid (hoN K T S L t s k = (f, z, b) ∧ Below w.heap.size w wr) := ⟨hh, hBr⟩
      clear hh hBr
      by_cases hf0 : 0 ≤ f
      all_goals
        go_wp2
        refine bodyPost_ret (v := .tuple #[.int .i64 f, .int .i64 z, .bool b, .bool (decide (0 ≤ f))]) (by simp [results, Try.results72, go_sem, hf0]) rfl ⟨⟨_, by rw [HH.out.1]⟩, HH.out.2⟩
end Go.Proofs.Ythbpjmnlgfahmaa
