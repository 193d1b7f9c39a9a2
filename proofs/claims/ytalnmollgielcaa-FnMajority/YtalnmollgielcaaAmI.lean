/- The contracts of misses, isMoreThan, slices.ContainsFunc and slices.Contains over words, setsFrom, and impl.AllMeet. -/
import Derived.Test.YtalnmollgielcaaAmG
namespace Go.Proofs.Ytalnmollgielcaa
open Go.RowKit
set_option linter.unusedVariables false

set_option maxHeartbeats 400000 in
theorem misses_any (s t : Nat) (w : World) (hs : s < 65536) (ht : t < 65536) :
    Calls Try.prog 65 #[.int .u16 s, .int .u16 t] w fun e w' => e = .returned (.bool ((s &&& t) == 0)) ∧ w' = w := by
  have h1 : bits .and .u16 (s : Int) (t : Int) = ((s &&& t : Nat) : Int) := and_u16 s t hs ht
  have HE : Hid ((((s &&& t : Nat) : Int) == 0) = ((s &&& t) == 0)) := Hid.intro (by rw [Bool.eq_iff_iff]; simp only [beq_iff_eq]; omega)
  generalize s &&& t = u at *
  go_enter Try.func65, Try.ntmps65
  go_wp2
  go_ret
  refine ⟨ret_bool ?_, rfl⟩
  have := HE.out
  simpa using this
/-- s has all of t, and is not the same. -/
def mtB (s t : Nat) : Bool := (s &&& t) == t && s != t
set_option maxHeartbeats 400000 in
theorem isMoreThan_any (s t : Nat) (w : World) (hs : s < 65536) (ht : t < 65536) :
    Calls Try.prog 68 #[.int .u16 s, .int .u16 t] w fun e w' => e = .returned (.bool (mtB s t)) ∧ w' = w := by
  have h1 : bits .and .u16 (s : Int) (t : Int) = ((s &&& t : Nat) : Int) := and_u16 s t hs ht
  by_cases e1 : (s &&& t) = t
  · rw [e1] at h1
    by_cases e2 : s = t
    · have HN : Hid (mtB s t = false) := Hid.intro (by simp [mtB, e2])
      subst e2
      go_enter Try.func68, Try.ntmps68
      go_wp2
      go_ret
      exact ⟨ret_bool HN.out.symm, rfl⟩
    · have HN : Hid (mtB s t = true) := Hid.intro (by simp [mtB, e1, e2])
      have e3 : ((s : Int) == (t : Int)) = false := by simp; omega
      have e4 : ((s : Int) != (t : Int)) = true := by simp [bne, e3]
      have e5 : ¬ (s : Int) = (t : Int) := by omega
      clear e1
      go_enter Try.func68, Try.ntmps68
      go_wp2
      go_ret
      exact ⟨ret_bool HN.out.symm, rfl⟩
  · have HN : Hid (mtB s t = false) := Hid.intro (by simp [mtB, e1])
    have e3 : ¬ ((s &&& t : Nat) : Int) = (t : Int) := by omega
    have e4 : (((s &&& t : Nat) : Int) == (t : Int)) = false := by simp; omega
    generalize s &&& t = u at *
    go_enter Try.func68, Try.ntmps68
    go_wp2
    go_ret
    exact ⟨ret_bool HN.out.symm, rfl⟩

set_option maxRecDepth 100000 in
set_option maxHeartbeats 1000000 in
theorem indexMiss_any (a : Option Addr) (n cap : Nat) (S : Nat → Nat) (s : Nat) (w : World) (hn : n ≤ 1048576) (hS : ∀ i, i < n → S i < 65536) (hs : s < 65536) (hr : Sl w a n 1 (wF S)) :
    Calls Try.prog 84 #[.slice a n cap, .func (.func 65) #[.int .u16 s] #[]] w fun r w' => ∃ x : Int, r = .returned (.int .i64 x) ∧ decide (0 ≤ x) = anyN (fun j => ((s &&& (S j)) == 0)) n ∧ w' = w := by
  have HS : Hid (Sl w a n 1 (wF S) ∧ ∀ i, i < n → S i < 65536) := ⟨hr, hS⟩
  clear hr hS
  go_enter Try.func84, Try.ntmps84
  go_wp2
  go_loop [8, 5] (fun i _ => ∃ k : Nat, k ≤ n ∧ i = .int .i64 k ∧ anyN (fun j => ((s &&& (S j)) == 0)) k = false) (fun i _ => n - (intOf i).toNat)
  case atStart => exact ⟨0, Nat.zero_le _, rfl, rfl⟩
  case round =>
    obtain ⟨k, hk, rfl, hall⟩ := hrel
    have HH : Hid (anyN (fun j => ((s &&& (S j)) == 0)) k = false) := hall
    clear hall
    by_cases hlt : k < n
    · rcases HS.out.1 with h | ⟨b, off, rfl, hbs, hE⟩
      · omega
      have hlt' : (k : Int) < (n : Int) := by omega
      have c0 := w_cell hE hlt
      have hSk := HS.out.2 k hlt
      clear hE
      cases hc : ((s &&& (S k)) == 0)
      · have HN : Hid (anyN (fun j => ((s &&& (S j)) == 0)) (k + 1) = false) := Hid.intro (by rw [anyN, HH.out]; simpa using hc)
        go_wp2_with (go_at_call 65; refine (misses_any _ _ _ hs hSk).mono ?_; rintro e w' ⟨rfl, rfl⟩; rw [hc])
        go_round
        case rel => exact ⟨k + 1, by omega, by go_num, HN.out⟩
        case measure => simp [intOf]; omega
      · have HN : Hid (anyN (fun j => ((s &&& (S j)) == 0)) n = true) := anyN_iff.2 ⟨k, hlt, hc⟩
        go_wp2_with (go_at_call 65; refine (misses_any _ _ _ hs hSk).mono ?_; rintro e w' ⟨rfl, rfl⟩; rw [hc])
        go_ret
        exact ⟨k, rfl, by rw [HN.out]; simp, rfl⟩
    · have hkn : k = n := by omega
      subst hkn
      go_wp2
      go_ret
      exact ⟨-1, rfl, by rw [HH.out]; rfl, rfl⟩
set_option maxHeartbeats 400000 in
theorem containsMiss_any (a : Option Addr) (n cap : Nat) (S : Nat → Nat) (s : Nat) (w : World) (hn : n ≤ 1048576) (hS : ∀ i, i < n → S i < 65536) (hs : s < 65536) (hr : Sl w a n 1 (wF S)) :
    Calls Try.prog 64 #[.slice a n cap, .func (.func 65) #[.int .u16 s] #[]] w fun r w' => r = .returned (.bool (anyN (fun j => ((s &&& (S j)) == 0)) n)) ∧ w' = w := by
  have HS : Hid (Sl w a n 1 (wF S) ∧ ∀ i, i < n → S i < 65536) := ⟨hr, hS⟩
  clear hr hS
  go_enter Try.func64, Try.ntmps64
  go_wp2_with fail
  refine (indexMiss_any _ _ _ S s _ hn HS.out.2 hs HS.out.1).mono ?_
  rintro r w1 ⟨x, rfl, hx, hw⟩
  have hw := hw.symm
  subst hw
  have HX : Hid (decide (0 ≤ x) = anyN (fun j => ((s &&& (S j)) == 0)) n) := hx
  clear hx
  go_wp2
  go_ret
  exact ⟨ret_bool HX.out, rfl⟩

set_option maxRecDepth 100000 in
set_option maxHeartbeats 1000000 in
theorem indexMore_any (a : Option Addr) (n cap : Nat) (S : Nat → Nat) (s : Nat) (w : World) (hn : n ≤ 1048576) (hS : ∀ i, i < n → S i < 65536) (hs : s < 65536) (hr : Sl w a n 1 (wF S)) :
    Calls Try.prog 84 #[.slice a n cap, .func (.func 68) #[.int .u16 s] #[]] w fun r w' => ∃ x : Int, r = .returned (.int .i64 x) ∧ decide (0 ≤ x) = anyN (fun j => mtB s (S j)) n ∧ w' = w := by
  have HS : Hid (Sl w a n 1 (wF S) ∧ ∀ i, i < n → S i < 65536) := ⟨hr, hS⟩
  clear hr hS
  go_enter Try.func84, Try.ntmps84
  go_wp2
  go_loop [8, 5] (fun i _ => ∃ k : Nat, k ≤ n ∧ i = .int .i64 k ∧ anyN (fun j => mtB s (S j)) k = false) (fun i _ => n - (intOf i).toNat)
  case atStart => exact ⟨0, Nat.zero_le _, rfl, rfl⟩
  case round =>
    obtain ⟨k, hk, rfl, hall⟩ := hrel
    have HH : Hid (anyN (fun j => mtB s (S j)) k = false) := hall
    clear hall
    by_cases hlt : k < n
    · rcases HS.out.1 with h | ⟨b, off, rfl, hbs, hE⟩
      · omega
      have hlt' : (k : Int) < (n : Int) := by omega
      have c0 := w_cell hE hlt
      have hSk := HS.out.2 k hlt
      clear hE
      cases hc : mtB s (S k)
      · have HN : Hid (anyN (fun j => mtB s (S j)) (k + 1) = false) := Hid.intro (by rw [anyN, HH.out]; simpa using hc)
        go_wp2_with (go_at_call 68; refine (isMoreThan_any _ _ _ hs hSk).mono ?_; rintro e w' ⟨rfl, rfl⟩; rw [hc])
        go_round
        case rel => exact ⟨k + 1, by omega, by go_num, HN.out⟩
        case measure => simp [intOf]; omega
      · have HN : Hid (anyN (fun j => mtB s (S j)) n = true) := anyN_iff.2 ⟨k, hlt, hc⟩
        go_wp2_with (go_at_call 68; refine (isMoreThan_any _ _ _ hs hSk).mono ?_; rintro e w' ⟨rfl, rfl⟩; rw [hc])
        go_ret
        exact ⟨k, rfl, by rw [HN.out]; simp, rfl⟩
    · have hkn : k = n := by omega
      subst hkn
      go_wp2
      go_ret
      exact ⟨-1, rfl, by rw [HH.out]; rfl, rfl⟩
set_option maxHeartbeats 400000 in
theorem containsMore_any (a : Option Addr) (n cap : Nat) (S : Nat → Nat) (s : Nat) (w : World) (hn : n ≤ 1048576) (hS : ∀ i, i < n → S i < 65536) (hs : s < 65536) (hr : Sl w a n 1 (wF S)) :
    Calls Try.prog 64 #[.slice a n cap, .func (.func 68) #[.int .u16 s] #[]] w fun r w' => r = .returned (.bool (anyN (fun j => mtB s (S j)) n)) ∧ w' = w := by
  have HS : Hid (Sl w a n 1 (wF S) ∧ ∀ i, i < n → S i < 65536) := ⟨hr, hS⟩
  clear hr hS
  go_enter Try.func64, Try.ntmps64
  go_wp2_with fail
  refine (indexMore_any _ _ _ S s _ hn HS.out.2 hs HS.out.1).mono ?_
  rintro r w1 ⟨x, rfl, hx, hw⟩
  have hw := hw.symm
  subst hw
  have HX : Hid (decide (0 ≤ x) = anyN (fun j => mtB s (S j)) n) := hx
  clear hx
  go_wp2
  go_ret
  exact ⟨ret_bool HX.out, rfl⟩

set_option maxRecDepth 100000 in
set_option maxHeartbeats 1000000 in
theorem indexW_any (a : Option Addr) (n cap : Nat) (S : Nat → Nat) (s : Nat) (w : World) (hn : n ≤ 1048576) (hr : Sl w a n 1 (wF S)) :
    Calls Try.prog 86 #[.slice a n cap, .int .u16 s] w fun r w' => ∃ x : Int, r = .returned (.int .i64 x) ∧ decide (0 ≤ x) = anyN (fun j => s == S j) n ∧ w' = w := by
  have HS : Hid (Sl w a n 1 (wF S)) := hr
  clear hr
  go_enter Try.func86, Try.ntmps86
  go_wp2
  go_loop [8, 5] (fun i _ => ∃ k : Nat, k ≤ n ∧ i = .int .i64 k ∧ anyN (fun j => s == S j) k = false) (fun i _ => n - (intOf i).toNat)
  case atStart => exact ⟨0, Nat.zero_le _, rfl, rfl⟩
  case round =>
    obtain ⟨k, hk, rfl, hall⟩ := hrel
    have HH : Hid (anyN (fun j => s == S j) k = false) := hall
    clear hall
    by_cases hlt : k < n
    · rcases HS.out with h | ⟨b, off, rfl, hbs, hE⟩
      · omega
      have hlt' : (k : Int) < (n : Int) := by omega
      have c0 := w_cell hE hlt
      clear hE
      by_cases hc : s = S k
      · have HN : Hid (anyN (fun j => s == S j) n = true) := anyN_iff.2 ⟨k, hlt, by simpa using hc⟩
        rw [← hc] at c0
        clear hc
        go_wp2
        go_ret
        exact ⟨k, rfl, by rw [HN.out]; simp, rfl⟩
      · have HN : Hid (anyN (fun j => s == S j) (k + 1) = false) := Hid.intro (by rw [anyN, HH.out]; simpa using hc)
        have e1 : ((s : Int) == (S k : Int)) = false := by simp; omega
        have e2 : ¬ (s : Int) = (S k : Int) := by omega
        generalize S k = t at *
        go_wp2
        go_round
        case rel => exact ⟨k + 1, by omega, by go_num, HN.out⟩
        case measure => simp [intOf]; omega
    · have hkn : k = n := by omega
      subst hkn
      go_wp2
      go_ret
      exact ⟨-1, rfl, by rw [HH.out]; rfl, rfl⟩
set_option maxHeartbeats 400000 in
theorem containsW_any (a : Option Addr) (n cap : Nat) (S : Nat → Nat) (s : Nat) (w : World) (hn : n ≤ 1048576) (hr : Sl w a n 1 (wF S)) :
    Calls Try.prog 69 #[.slice a n cap, .int .u16 s] w fun r w' => r = .returned (.bool (anyN (fun j => s == S j) n)) ∧ w' = w := by
  have HS : Hid (Sl w a n 1 (wF S)) := hr
  clear hr
  go_enter Try.func69, Try.ntmps69
  go_wp2_with fail
  refine (indexW_any _ _ _ S s _ hn HS.out).mono ?_
  rintro r w1 ⟨x, rfl, hx, hw⟩
  have hw := hw.symm
  subst hw
  have HX : Hid (decide (0 ≤ x) = anyN (fun j => s == S j) n) := hx
  clear hx
  go_wp2
  go_ret
  exact ⟨ret_bool HX.out, rfl⟩

theorem info_word : (Try.prog.info? 76).map (fun i => (i.zero, i.size, i.bytes)) = some (some (.int .u16 0), 1, 2) := by kernel_rfl
def SsPost (V : Nat → GV) (n : Nat) (m : Int) (w : World) (r : Ending) (w' : World) : Prop :=
  ((gsB V n m = false ∧ r = .returned (.tuple #[.slice none 0 0, .bool false])) ∨ (gsB V n m = true ∧ ∃ a cap, r = .returned (.tuple #[.slice a n cap, .bool true]) ∧ Sl w' a n 1 (wF (sw V)) ∧ n ≤ cap ∧ cap ≤ maxLen)) ∧ Below w.heap.size w w'
theorem one_word (w : World) (v : Value) (e : TypeId) : ∀ j u, [v][j]? = some u → (w.alloc (.cells #[v] e)).cell? ((⟨w.heap.size, 0, none⟩ : Addr).add j) = some u := one_cell w v e
set_option maxRecDepth 100000 in
set_option maxHeartbeats 2000000 in
theorem setsFrom_any (a : Option Addr) (n cap : Nat) (V : Nat → GV) (A : Nat → GA) (m : Int) (w : World) (hn : n ≤ 1048576) (hz : ∀ i, i < n → (V i).n ≤ 1048576) (hs : GsS w a n V A) :
    Calls Try.prog 63 #[.slice a n cap, .int .i64 m] w (SsPost V n m w) := by
  have HS : Hid (GsS w a n V A ∧ ∀ i, i < n → (V i).n ≤ 1048576) := ⟨hs, hz⟩
  clear hs hz
  obtain ⟨i0, hi0, hz0, hz1, hz2⟩ := info_parts info_word
  by_cases h40 : (40 : Int) < (n : Int)
  · have HN : Hid (gsB V n m = false) := gsB_no (fun q => by omega)
    go_enter Try.func63, Try.ntmps63
    go_wp2
    go_ret2
    exact ⟨Or.inl ⟨HN.out, rfl⟩, Below.refl _ _⟩
  cases hm : inR m 1 12
  · have HN : Hid (gsB V n m = false) := gsB_no (fun q => by rw [inR_iff.2 q.2.1] at hm; cases hm)
    go_enter Try.func63, Try.ntmps63
    go_wp2_with (go_at_call 71; refine (inRange_any _ _ _ _).mono ?_; rintro e w' ⟨rfl, hw⟩; have hw := hw.symm; subst hw)
    go_ret2
    exact ⟨Or.inl ⟨HN.out, rfl⟩, Below.refl _ _⟩
  have HM : Hid (n ≤ 40 ∧ 1 ≤ m ∧ m ≤ 12) := ⟨by omega, inR_iff.1 hm⟩
  have hn40 : n ≤ 40 := by omega
  go_enter Try.func63, Try.ntmps63
  go_wp2_with (go_at_call 71; refine (inRange_any _ _ _ _).mono ?_; rintro e w' ⟨rfl, hw⟩; have hw := hw.symm; subst hw)
  clear hm
  go_loopw [21, 6, 8, 9, 10] (fun x v _ _ _ wr => ∃ k : Nat, k ≤ n ∧ x = .int .i64 k ∧ wr.ownsRow w.heap.size 76 1 v k (wC (sw V) k) ∧ (∀ i, i < k → grB (V i).x (V i).n m = true) ∧ Below w.heap.size w wr) (fun x _ _ _ _ _ => n - (intOf x).toNat)
  case atStart => exact ⟨0, Nat.zero_le _, rfl, World.ownsRow_nil _ _ _ _, fun i hi => absurd hi (by omega), Below.refl _ _⟩
  case round =>
    obtain ⟨k, hk, rfl, hown, hall, hBr⟩ := hrel
    have HH : Hid (wr.ownsRow w.heap.size 76 1 u6 k (wC (sw V) k) ∧ (∀ i, i < k → grB (V i).x (V i).n m = true) ∧ Below w.heap.size w wr) := ⟨hown, hall, hBr⟩
    clear hown hall
    by_cases hlt : k < n
    · have h1 := (HS.out.1.next hBr).2 k hlt
      rcases (HS.out.1.next hBr).1 with h | ⟨b, off, rfl, hbs, hE⟩
      · omega
      have hlt' : (k : Int) < (n : Int) := by omega
      have c0 := gs_cell hE hlt
      have HT : Hid (Sl (wr.alloc (.cells #[.slice (A k).a (V k).n (A k).c] 25)) (A k).a (V k).n 1 (intF (V k).x) ∧ (V k).n ≤ 1073741824) := ⟨h1.kept (Go.Joins.below_alloc1 _ _), by have := HS.out.2 k hlt; omega⟩
      clear h1 hE hBr
      go_wp2_with fail
      refine (setFrom_any _ _ _ (V k).x m _ HT.out.2 HT.out.1).mono ?_
      rintro r w1 ⟨rfl, hb1⟩
      have hb2 : Below wr.heap.size wr w1 := (Go.Joins.below_alloc1 _ _).trans (hb1.mono (by simp))
      have H1 : Hid (w1.ownsRow w.heap.size 76 1 u6 k (wC (sw V) k) ∧ Below w.heap.size w w1) := ⟨own_next HH.out.1 hb2, below_next HH.out.2.2 hb2⟩
      clear hb1 hb2 HT c0
      cases hg : grB (V k).x (V k).n m
      · have HN : Hid (gsB V n m = false) := gsB_no (fun q => by rw [q.2.2 k hlt] at hg; cases hg)
        generalize grW (V k).x (V k).n m = s
        go_wp2
        go_ret2
        exact ⟨Or.inl ⟨HN.out, rfl⟩, H1.out.2⟩
      · have HE : Hid (grW (V k).x (V k).n m = sw V k ∧ ∀ i, i < k + 1 → grB (V i).x (V i).n m = true) := ⟨by simp [grW, hg, sw], upto_more HH.out.2.1 hg⟩
        have hzw : w.heap.size ≤ w1.heap.size := H1.out.2.size
        rw [HE.out.1]
        have HC : Hid (wC (sw V) (k + 1) = wC (sw V) k ++ [.int .u16 (sw V k : Nat)]) := wC_succ _ _
        clear hg
        generalize sw V k = s at *
        generalize wC (sw V) k = l at *
        go_wp2_with (first
          | (at_builtin; refine wpList_append_own _ rfl (.tmp 33) (.tmp 35) 83 rfl w.heap.size 76 i0 (.int .u16 0) 1 2 Try.underlying83 hi0 hz0 hz1 hz2 rfl (by decide) u6 k l rfl (World.ownsRow.alloc H1.out.1 _) ⟨_, 0, none⟩ 1 1 [.int .u16 (s : Int)] rfl rfl (one_word _ _ _) (by intro u hu; simp at hu; subst hu; rfl) (by unfold maxLen; omega) (by omega) (by simp <;> omega) ?_; intro v4 w4 hown hgrow hnil))
        have HF4 : Hid (w4.ownsRow w.heap.size 76 1 v4 (k + 1) (wC (sw V) (k + 1)) ∧ Below w.heap.size w w4) := by
          refine ⟨by rw [HC.out]; exact hown, (H1.out.2.alloc H1.out.2.size _).grown hgrow (by simp; omega) (fun j hj => (H1.out.1.lt j hj).1)⟩
        clear hown hgrow hnil
        go_wp2
        go_roundw
        case rel => exact ⟨k + 1, by omega, by go_num, HF4.out.1, HE.out.2, HF4.out.2⟩
        case measure => simp [intOf]; omega
    · have hkn : k = n := by omega
      subst hkn
      obtain ⟨a4, cap4, rfl, hx, hc, hcm⟩ := wC_sl HH.out.1
      have HP : Hid (SsPost V k m w (.returned (.tuple #[.slice a4 k cap4, .bool true])) wr) := ⟨Or.inr ⟨gsB_iff.2 ⟨HM.out.1, HM.out.2, HH.out.2.1⟩, a4, cap4, rfl, hx, hc, hcm⟩, HH.out.2.2⟩
      clear hx HH hBr
      go_wp2
      go_ret2
      exact HP.out
end Go.Proofs.Ytalnmollgielcaa
