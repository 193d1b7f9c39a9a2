/- The contracts of HolderOf, on both sides. -/
import Derived.Test.YtedjllmbpcpfjaaLkP
import Derived.Test.YtedjllmbpcpfjaaGlS
import Derived.Test.YtedjllmbpcpfjaaIntsH
namespace Go.Proofs.Ytedjllmbpcpfjaa
open Go.RowKit
set_option linter.unusedVariables false

theorem good_rising {V : Nat → LkV} {n : Nat} (h : goodL V n = true) : Rising V n := by
  have h' : n ≤ 20 ∧ ∀ i, i < n → lock1 V i := by simpa [goodL] using h
  exact fun i h0 hi => (h'.2 i hi).1.2 h0
def hoG (V : Nat → LkV) (n : Nat) (t : ByteArray) : Bool := goodL V n && keyOk t
def hoN (V : Nat → LkV) (n : Nat) (t : ByteArray) : Nat := if (hoG V n t && fnd V n t) = true then (V (plc V n t)).h.n else 0
def hoX (V : Nat → LkV) (n : Nat) (t : ByteArray) : Nat → Int := (V (plc V n t)).h.t
def HoPost (V : Nat → LkV) (n : Nat) (t : ByteArray) (w : World) (r : Ending) (w' : World) : Prop :=
  (∃ a cap, r = .returned (.tuple #[.slice a (hoN V n t) cap, .bool (hoG V n t)]) ∧ IntS w' w.heap.size w'.heap.size a (hoN V n t) (hoX V n t)) ∧ Below w.heap.size w w'
theorem ho_no {V : Nat → LkV} {n : Nat} {t : ByteArray} {w w' : World} (h : hoG V n t = false) (hb : Below w.heap.size w w') : HoPost V n t w (.returned (.tuple #[.slice none 0 0, .bool false])) w' :=
  ⟨⟨none, 0, by simp [hoN, h], Or.inl (by simp [hoN, h])⟩, hb⟩
theorem ho_none {V : Nat → LkV} {n : Nat} {t : ByteArray} {w w' : World} (h : hoG V n t = true) (hf : fnd V n t = false) (hb : Below w.heap.size w w') : HoPost V n t w (.returned (.tuple #[.slice none 0 0, .bool true])) w' :=
  ⟨⟨none, 0, by simp [hoN, h, hf], Or.inl (by simp [hoN, hf])⟩, hb⟩
theorem ho_yes {V : Nat → LkV} {n : Nat} {t : ByteArray} {w w' : World} {a : Option Addr} {cap : Nat} (h : hoG V n t = true) (hf : fnd V n t = true) (hx : IntS w' w.heap.size w'.heap.size a (V (plc V n t)).h.n (hoX V n t)) (hb : Below w.heap.size w w') : HoPost V n t w (.returned (.tuple #[.slice a (V (plc V n t)).h.n cap, .bool true])) w' :=
  ⟨⟨a, cap, by simp [hoN, h, hf], by simpa [hoN, h, hf] using hx⟩, hb⟩
theorem hoN_le {V : Nat → LkV} {n : Nat} {t : ByteArray} (hz : ∀ i, i < n → LkOk (V i)) : hoN V n t ≤ 1048576 := by
  unfold hoN
  split
  case isTrue h =>
    simp only [Bool.and_eq_true] at h
    have hf := h.2
    simp only [fnd, Bool.and_eq_true, decide_eq_true_eq] at hf
    exact (hz _ hf.1).2.1
  case isFalse => omega
theorem fnd_lt {V : Nat → LkV} {n : Nat} {t : ByteArray} (h : fnd V n t = true) : plc V n t < n := by
  simp only [fnd, Bool.and_eq_true, decide_eq_true_eq] at h; exact h.1

set_option maxRecDepth 100000 in
set_option maxHeartbeats 4000000 in
theorem holderOf_any (a : Option Addr) (n cap : Nat) (V : Nat → LkV) (A : Nat → LkA) (t : ByteArray) (w : World) (hn : n ≤ 1048576) (ht : t.size ≤ maxLen) (hz : ∀ i, i < n → LkOk (V i)) (hs : LkS w a n V A) :
    Calls Try.prog 21 #[.slice a n cap, .string t] w (HoPost V n t w) := by
  have HS : Hid (LkS w a n V A ∧ ∀ i, i < n → LkOk (V i)) := ⟨hs, hz⟩
  clear hs hz
  obtain ⟨i0, hi0, hz0, hz1, hz2⟩ := info_parts info_int
  go_enter Try.func21, Try.ntmps21
  go_wp2_with fail
  refine (goodLocks_any _ _ _ V A _ hn HS.out.2 HS.out.1).mono ?_
  rintro r w1 ⟨rfl, hb1⟩
  have HB1 : Hid (Below w.heap.size w w1) := hb1
  clear hb1
  cases hg : goodL V n
  · have HN : Hid (hoG V n t = false) := by show hoG V n t = false; simp [hoG, hg]
    go_wp2
    exact bodyPost_ret (v := .tuple #[.slice none 0 0, .bool false]) (by simp [results, Try.results21, go_sem]) rfl (ho_no HN.out HB1.out)
  have HG : Hid (goodL V n = true) := hg
  cases hk : keyOk t
  · have HN : Hid (hoG V n t = false) := by show hoG V n t = false; simp [hoG, hk]
    go_wp2_with (go_at_call 49; refine (isKey_is _ hk ht).mono ?_; rintro e w' ⟨rfl, rfl⟩)
    exact bodyPost_ret (v := .tuple #[.slice none 0 0, .bool false]) (by simp [results, Try.results21, go_sem]) rfl (ho_no HN.out HB1.out)
  have HY : Hid (hoG V n t = true) := by show hoG V n t = true; simp [hoG, hg, hk]
  go_wp2_with fail
  refine (isKey_is _ hk ht).mono ?_
  rintro e w2 ⟨rfl, hw2⟩
  have hw2 := hw2.symm
  subst hw2
  have HB2 : Hid (Below w.heap.size w w1) := HB1.out
  clear hg hk
  go_wp2_with fail
  refine (lockPlace_any _ _ _ V A t _ hn (good_rising HG.out) (HS.out.1.next HB2.out)).mono ?_
  rintro r w2 ⟨rfl, hb2⟩
  have HB3 : Hid (Below w.heap.size w w2) := below_next HB2.out hb2
  clear hb2 HB1 HB2
  cases hf : fnd V n t
  · have HF : Hid (fnd V n t = false) := hf
    go_wp2
    exact bodyPost_ret (v := .tuple #[.slice none 0 0, .bool true]) (by simp [results, Try.results21, go_sem]) rfl (ho_none HY.out HF.out HB3.out)
  have HF : Hid (fnd V n t = true) := hf
  have hp := fnd_lt hf
  have HX : Hid (hoX V n t = (V (plc V n t)).h.t) := rfl
  have HE : Hid (∀ (aa : Option Addr) (cc : Nat) (w' : World), IntS w' w.heap.size w'.heap.size aa (V (plc V n t)).h.n (V (plc V n t)).h.t → Below w.heap.size w w' → HoPost V n t w (.returned (.tuple #[.slice aa (V (plc V n t)).h.n cc, .bool true])) w') := fun aa cc w' h1 h2 => ho_yes HY.out HF.out h1 h2
  clear hf
  obtain ⟨p, hpp⟩ : ∃ p, plc V n t = p := ⟨_, rfl⟩
  rw [hpp] at hp HX HE ⊢
  clear hpp
  have hp' : (p : Int) < (n : Int) := by omega
  have hs3 := HS.out.1.next HB3.out
  have hat := hs3.2 p hp
  have hok := HS.out.2 p hp
  rcases hs3.1 with h | ⟨b, off, rfl, hbs, hE⟩
  · omega
  obtain ⟨c0, c1, c2⟩ := lk_cells hE hp
  have hhn : (V p).h.n ≤ 1048576 := hok.2.1
  clear hs3 hE
  go_wp2
  go_loopw [32, 6] (fun x v wr => ∃ k : Nat, k ≤ (V p).h.n ∧ x = .int .i64 k ∧ wr.ownsRow w.heap.size 3 1 v k (ints (V p).h.t k) ∧ Below w.heap.size w wr) (fun x _ _ => (V p).h.n - (intOf x).toNat)
  case atStart => exact ⟨0, Nat.zero_le _, rfl, World.ownsRow_nil _ _ _ _, HB3.out⟩
  case round =>
    obtain ⟨k, hk, rfl, hown, hBr⟩ := hrel
    clear HB3 c0 c1 c2 hat hok
    by_cases hlt : k < (V p).h.n
    · have hlt' : (k : Int) < ((V p).h.n : Int) := by omega
      have hat := ((HS.out.1.next hBr).2 p hp).1
      rcases hat with h | ⟨b', off', hwa, hbs', hE'⟩
      · omega
      obtain ⟨d0, d1⟩ := hd_cells hE' hlt
      have hz : w.heap.size ≤ wr.heap.size := hBr.size
      have HH : Hid (wr.ownsRow w.heap.size 3 1 u6 k (ints (V p).h.t k) ∧ Below w.heap.size w wr) := ⟨hown, hBr⟩
      rw [hwa]
      have HW : Hid ((wr.alloc (.cells #[.int .i64 ((V p).h.t k), .int .i64 ((V p).h.m k)] 50)).ownsRow w.heap.size 3 1 u6 k (ints (V p).h.t k) ∧ Below w.heap.size w (wr.alloc (.cells #[.int .i64 ((V p).h.t k), .int .i64 ((V p).h.m k)] 50))) := ⟨own_keep hown (Go.Joins.below_alloc1 _ _), hBr.alloc hz _⟩
      clear hown hBr hE'
      go_wp2_with (first
        | (at_builtin; refine wpList_append_own _ rfl (.tmp 36) (.tmp 39) 26 rfl w.heap.size 3 i0 (.int .i64 0) 1 8 Try.underlying26 hi0 hz0 hz1 hz2 rfl (by decide) u6 k (ints (V p).h.t k) rfl (World.ownsRow.alloc HW.out.1 _) ⟨_, 0, none⟩ 1 1 [.int .i64 ((V p).h.t k)] rfl rfl (one_at (by first | rfl | simp) _ _) (by intro u hu; simp at hu; subst hu; rfl) (by unfold maxLen; omega) (by omega) (by simp <;> omega) ?_; intro v4 w4 hown hgrow hnil)
        | go_in)
      have HF4 : Hid (w4.ownsRow w.heap.size 3 1 v4 (k + 1) (ints (V p).h.t (k + 1)) ∧ Below w.heap.size w w4) := by
        refine ⟨by rw [ints_succ]; exact hown, (HW.out.2.alloc HW.out.2.size _).grown hgrow (by simp; omega) (fun j hj => (HW.out.1.lt j hj).1)⟩
      clear hown hgrow hnil
      go_wp2
      go_roundw
      case rel => exact ⟨k + 1, by omega, by go_num, HF4.out⟩
      case measure => simp [intOf]; omega
    · have hkn : k = (V p).h.n := by omega
      obtain ⟨a4, cap4, rfl, hx⟩ := ints_row hown
      have HR : Hid (HoPost V n t w (.returned (.tuple #[.slice a4 k cap4, .bool true])) wr) := by
        have := HE.out a4 cap4 wr (by rw [← hkn]; exact hx) hBr
        rw [← hkn] at this; exact this
      have hlt' : ¬ (k : Int) < ((V p).h.n : Int) := by omega
      clear hown hBr hx hkn
      go_wp2
      exact bodyPost_ret (v := .tuple #[.slice a4 k cap4, .bool true]) (by simp [results, Try.results21, go_sem]) rfl HR.out

set_option maxRecDepth 100000 in
set_option maxHeartbeats 4000000 in
theorem specHolderOf_any (a : Option Addr) (n cap : Nat) (V : Nat → LkV) (A : Nat → LkA) (t : ByteArray) (w : World) (hn : n ≤ 1048576) (ht : t.size ≤ maxLen) (hz : ∀ i, i < n → LkOk (V i)) (hs : LkS w a n V A) :
    Calls Try.prog 42 #[.slice a n cap, .string t] w (HoPost V n t w) := by
  have HS : Hid (LkS w a n V A ∧ ∀ i, i < n → LkOk (V i)) := ⟨hs, hz⟩
  clear hs hz
  obtain ⟨i0, hi0, hz0, hz1, hz2⟩ := info_parts info_int
  go_enter Try.func42, Try.ntmps42
  go_wp2_with fail
  refine (specGoodLocks_any _ _ _ V A _ hn HS.out.2 HS.out.1).mono ?_
  rintro r w1 ⟨rfl, hb1⟩
  have HB1 : Hid (Below w.heap.size w w1) := hb1
  clear hb1
  cases hg : goodL V n
  · have HN : Hid (hoG V n t = false) := by show hoG V n t = false; simp [hoG, hg]
    go_wp2
    exact bodyPost_ret (v := .tuple #[.slice none 0 0, .bool false]) (by simp [results, Try.results42, go_sem]) rfl (ho_no HN.out HB1.out)
  have HG : Hid (goodL V n = true) := hg
  cases hk : keyOk t
  · have HN : Hid (hoG V n t = false) := by show hoG V n t = false; simp [hoG, hk]
    go_wp2_with (go_at_call 52; refine (l1Key_is _ hk ht).mono ?_; rintro e w' ⟨rfl, rfl⟩)
    exact bodyPost_ret (v := .tuple #[.slice none 0 0, .bool false]) (by simp [results, Try.results42, go_sem]) rfl (ho_no HN.out HB1.out)
  have HY : Hid (hoG V n t = true) := by show hoG V n t = true; simp [hoG, hg, hk]
  go_wp2_with fail
  refine (l1Key_is _ hk ht).mono ?_
  rintro e w2 ⟨rfl, hw2⟩
  have hw2 := hw2.symm
  subst hw2
  have HB2 : Hid (Below w.heap.size w w1) := HB1.out
  clear hg hk
  go_wp2_with fail
  refine (l4At_any _ _ _ V A t _ hn (HS.out.1.next HB2.out)).mono ?_
  rintro r w2 ⟨rfl, hb2⟩
  have HB3 : Hid (Below w.heap.size w w2) := below_next HB2.out hb2
  clear hb2 HB1 HB2
  cases hf : fnd V n t
  · have HF : Hid (fnd V n t = false) := hf
    go_wp2
    exact bodyPost_ret (v := .tuple #[.slice none 0 0, .bool true]) (by simp [results, Try.results42, go_sem]) rfl (ho_none HY.out HF.out HB3.out)
  have HF : Hid (fnd V n t = true) := hf
  have hp := fnd_lt hf
  have HX : Hid (hoX V n t = (V (plc V n t)).h.t) := rfl
  have HE : Hid (∀ (aa : Option Addr) (cc : Nat) (w' : World), IntS w' w.heap.size w'.heap.size aa (V (plc V n t)).h.n (V (plc V n t)).h.t → Below w.heap.size w w' → HoPost V n t w (.returned (.tuple #[.slice aa (V (plc V n t)).h.n cc, .bool true])) w') := fun aa cc w' h1 h2 => ho_yes HY.out HF.out h1 h2
  clear hf
  obtain ⟨p, hpp⟩ : ∃ p, plc V n t = p := ⟨_, rfl⟩
  rw [hpp] at hp HX HE ⊢
  clear hpp
  have hp' : (p : Int) < (n : Int) := by omega
  have hs3 := HS.out.1.next HB3.out
  have hat := hs3.2 p hp
  have hok := HS.out.2 p hp
  rcases hs3.1 with h | ⟨b, off, rfl, hbs, hE⟩
  · omega
  obtain ⟨c0, c1, c2⟩ := lk_cells hE hp
  have hhn : (V p).h.n ≤ 1048576 := hok.2.1
  clear hs3 hE
  go_wp2
  go_loopw [32, 6] (fun x v wr => ∃ k : Nat, k ≤ (V p).h.n ∧ x = .int .i64 k ∧ wr.ownsRow w.heap.size 3 1 v k (ints (V p).h.t k) ∧ Below w.heap.size w wr) (fun x _ _ => (V p).h.n - (intOf x).toNat)
  case atStart => exact ⟨0, Nat.zero_le _, rfl, World.ownsRow_nil _ _ _ _, HB3.out⟩
  case round =>
    obtain ⟨k, hk, rfl, hown, hBr⟩ := hrel
    clear HB3 c0 c1 c2 hat hok
    by_cases hlt : k < (V p).h.n
    · have hlt' : (k : Int) < ((V p).h.n : Int) := by omega
      have hat := ((HS.out.1.next hBr).2 p hp).1
      rcases hat with h | ⟨b', off', hwa, hbs', hE'⟩
      · omega
      obtain ⟨d0, d1⟩ := hd_cells hE' hlt
      have hz : w.heap.size ≤ wr.heap.size := hBr.size
      have HH : Hid (wr.ownsRow w.heap.size 3 1 u6 k (ints (V p).h.t k) ∧ Below w.heap.size w wr) := ⟨hown, hBr⟩
      rw [hwa]
      have HW : Hid ((wr.alloc (.cells #[.int .i64 ((V p).h.t k), .int .i64 ((V p).h.m k)] 50)).ownsRow w.heap.size 3 1 u6 k (ints (V p).h.t k) ∧ Below w.heap.size w (wr.alloc (.cells #[.int .i64 ((V p).h.t k), .int .i64 ((V p).h.m k)] 50))) := ⟨own_keep hown (Go.Joins.below_alloc1 _ _), hBr.alloc hz _⟩
      clear hown hBr hE'
      go_wp2_with (first
        | (at_builtin; refine wpList_append_own _ rfl (.tmp 36) (.tmp 39) 26 rfl w.heap.size 3 i0 (.int .i64 0) 1 8 Try.underlying26 hi0 hz0 hz1 hz2 rfl (by decide) u6 k (ints (V p).h.t k) rfl (World.ownsRow.alloc HW.out.1 _) ⟨_, 0, none⟩ 1 1 [.int .i64 ((V p).h.t k)] rfl rfl (one_at (by first | rfl | simp) _ _) (by intro u hu; simp at hu; subst hu; rfl) (by unfold maxLen; omega) (by omega) (by simp <;> omega) ?_; intro v4 w4 hown hgrow hnil)
        | go_in)
      have HF4 : Hid (w4.ownsRow w.heap.size 3 1 v4 (k + 1) (ints (V p).h.t (k + 1)) ∧ Below w.heap.size w w4) := by
        refine ⟨by rw [ints_succ]; exact hown, (HW.out.2.alloc HW.out.2.size _).grown hgrow (by simp; omega) (fun j hj => (HW.out.1.lt j hj).1)⟩
      clear hown hgrow hnil
      go_wp2
      go_roundw
      case rel => exact ⟨k + 1, by omega, by go_num, HF4.out⟩
      case measure => simp [intOf]; omega
    · have hkn : k = (V p).h.n := by omega
      obtain ⟨a4, cap4, rfl, hx⟩ := ints_row hown
      have HR : Hid (HoPost V n t w (.returned (.tuple #[.slice a4 k cap4, .bool true])) wr) := by
        have := HE.out a4 cap4 wr (by rw [← hkn]; exact hx) hBr
        rw [← hkn] at this; exact this
      have hlt' : ¬ (k : Int) < ((V p).h.n : Int) := by omega
      clear hown hBr hx hkn
      go_wp2
      exact bodyPost_ret (v := .tuple #[.slice a4 k cap4, .bool true]) (by simp [results, Try.results42, go_sem]) rfl HR.out
end Go.Proofs.Ytedjllmbpcpfjaa
