/- The law's own functions on groups: szGroup, toGroup, eqGroup, markGroup, heldGroup. -/
import Derived.Test.YtalnmollgielcaaRowS
namespace Go.Proofs.Ytalnmollgielcaa
open Go.RowKit
set_option linter.unusedVariables false

set_option maxHeartbeats 400000 in
theorem szIntS_any (a : Option Addr) (n cap : Nat) (l : Int) (w : World) (hn : n ≤ maxLen) (h0 : 0 ≤ l) (h1 : l ≤ 1048576) :
    Calls Try.prog 74 #[.slice a n cap, .int .i64 l] w fun r w' => r = .returned (.int .i64 (if l < n then -1 else l - n)) ∧ w' = w := by
  unfold maxLen at hn
  by_cases h : l < n
  · have h' : l - (n : Int) < 0 := by omega
    go_enter Try.func74, Try.ntmps74
    go_wp2
    go_ret
    exact ⟨by simp, rfl⟩
  · have h' : ¬ l - (n : Int) < 0 := by omega
    go_enter Try.func74, Try.ntmps74
    go_wp2
    go_ret
    exact ⟨by simp, rfl⟩

set_option maxHeartbeats 400000 in
theorem szGroup_any (a : Option Addr) (n cap : Nat) (l : Int) (w : World) (hn : n ≤ maxLen) (h0 : 0 ≤ l) (h1 : l ≤ 1048576) :
    Calls Try.prog 36 #[.agg #[.slice a n cap], .int .i64 l] w fun r w' => r = .returned (.int .i64 (if l < n then -1 else l - n)) ∧ Below w.heap.size w w' := by
  by_cases h : l < n
  · go_enter Try.func36, Try.ntmps36
    go_wp2_with fail
    refine (szIntS_any _ _ _ _ _ hn h0 h1).mono ?_
    rintro r w1 ⟨rfl, rfl⟩
    rw [if_pos h]
    go_wp2
    go_ret
    exact ⟨by simp, (by repeat (first | refine Below.setCell ?_ (by (try simp) <;> omega) _ | refine Below.alloc ?_ (by (try simp) <;> omega) _ | refine Below.drew ?_ | assumption | exact Below.refl _ _ | refine Below.trans ?_ (Below.mono (by assumption) (by (try simp) <;> omega))))⟩
  · have h' : ¬ l - (n : Int) < 0 := by omega
    go_enter Try.func36, Try.ntmps36
    go_wp2_with fail
    refine (szIntS_any _ _ _ _ _ hn h0 h1).mono ?_
    rintro r w1 ⟨rfl, rfl⟩
    rw [if_neg (by omega)]
    go_wp2
    go_ret
    exact ⟨by simp, (by repeat (first | refine Below.setCell ?_ (by (try simp) <;> omega) _ | refine Below.alloc ?_ (by (try simp) <;> omega) _ | refine Below.drew ?_ | assumption | exact Below.refl _ _ | refine Below.trans ?_ (Below.mono (by assumption) (by (try simp) <;> omega))))⟩

set_option maxHeartbeats 1000000 in
theorem toGroup_any (a : Option Addr) (n cap : Nat) (X : Nat → Int) (w : World) (hn : n ≤ 1048576) (hs : Sl w a n 1 (intF X)) :
    Calls Try.prog 38 #[.agg #[.slice a n cap]] w fun r w' => (∃ g, r = .returned (.agg #[.slice (some ⟨g, 0, none⟩) n n]) ∧ IntS w' w.heap.size w'.heap.size (some ⟨g, 0, none⟩) n X) ∧ Below w.heap.size w w' := by
  have HS : Hid (Sl w a n 1 (intF X)) := hs
  clear hs
  go_enter Try.func38, Try.ntmps38
  go_wp2_with fail
  have hba : Below w.heap.size w (((w.alloc (.cells #[.slice a n cap] 49)).alloc (.cells #[.slice none 0 0] 25)).alloc (.cells #[.slice none 0 0] 25)) := (((Below.refl _ _).alloc (Nat.le_refl _) _).alloc (by simp) _).alloc (by simp; omega) _
  refine (toIntS_any _ _ _ X _ hn (HS.out.kept hba)).mono ?_
  rintro r w1 ⟨rfl, hi, hg, hb⟩
  have q1 : w1.cell? ⟨w.heap.size + 1, 0, none⟩ = some (.slice none 0 0) := by rw [hb.cell (p := ⟨w.heap.size + 1, 0, none⟩) (by simp)]; simp [go_sem]
  have q2 : w1.cell? ⟨w.heap.size + 1 + 1, 0, none⟩ = some (.slice none 0 0) := by rw [hb.cell (p := ⟨w.heap.size + 1 + 1, 0, none⟩) (by simp)]; simp [go_sem]
  have f1 : w1.frozen? ⟨w.heap.size + 1, 0, none⟩ = false := by rw [hb.frozen (p := ⟨w.heap.size + 1, 0, none⟩) (by simp)]; simp [go_sem]
  have f2 : w1.frozen? ⟨w.heap.size + 1 + 1, 0, none⟩ = false := by rw [hb.frozen (p := ⟨w.heap.size + 1 + 1, 0, none⟩) (by simp)]; simp [go_sem]
  have hz : w.heap.size + 1 + 1 + 1 < w1.heap.size := by simpa using hg
  have HH : Hid (IntS w1 (w.heap.size + 1 + 1 + 1) w1.heap.size (some ⟨w.heap.size + 1 + 1 + 1, 0, none⟩) n X ∧ Below w.heap.size w w1) := ⟨by have := hi.wide (Nat.le_refl _) (show _ ≤ w1.heap.size from hg); simpa using this, hba.trans (hb.mono (by simp; omega))⟩
  clear hi hb hg hba
  go_wp2
  obtain ⟨hi, hB⟩ := HH.out
  refine bodyPost_ret (v := .agg #[.slice (some ⟨w.heap.size + 1 + 1 + 1, 0, none⟩) n n]) (by simp [results, Try.results38, go_sem, q1]) rfl ⟨⟨_, rfl, ?_⟩, (by repeat (first | refine Below.setCell ?_ (by (try simp) <;> omega) _ | refine Below.alloc ?_ (by (try simp) <;> omega) _ | refine Below.drew ?_ | assumption | exact Below.refl _ _ | refine Below.trans ?_ (Below.mono (by assumption) (by (try simp) <;> omega))))⟩
  have t : Turned w.heap.size (w.heap.size + 1 + 1 + 1) w1 ((w1.setCell ⟨w.heap.size + 1 + 1, 0, none⟩ (.slice (some ⟨w.heap.size + 1 + 1 + 1, 0, none⟩) n n)).setCell ⟨w.heap.size + 1, 0, none⟩ (.slice (some ⟨w.heap.size + 1 + 1 + 1, 0, none⟩) n n)) :=
    ((Turned.refl _ _ _).set (p := ⟨w.heap.size + 1 + 1, 0, none⟩) (by show _ ≤ w.heap.size + 1 + 1; omega) (by show w.heap.size + 1 + 1 < _; omega) _).set (p := ⟨w.heap.size + 1, 0, none⟩) (by show _ ≤ w.heap.size + 1; omega) (by show w.heap.size + 1 < _; omega) _
  have := (t.ints hi (Or.inr (Nat.le_refl _))).wide (show w.heap.size ≤ _ by omega) (Nat.le_refl _)
  simpa using this

set_option maxHeartbeats 1000000 in
theorem eqGroup_same (a a' : Option Addr) (n cap cap' : Nat) (X : Nat → Int) (w : World) (hn : n ≤ 1048576) (hs : Sl w a n 1 (intF X)) (hs' : Sl w a' n 1 (intF X)) :
    Calls Try.prog 40 #[.agg #[.slice a n cap], .agg #[.slice a' n cap']] w fun r w' => r = .returned (.bool true) ∧ Below w.heap.size w w' := by
  have HS : Hid (Sl w a n 1 (intF X) ∧ Sl w a' n 1 (intF X)) := ⟨hs, hs'⟩
  clear hs hs'
  go_enter Try.func40, Try.ntmps40
  go_wp2_with fail
  have hba : Below w.heap.size w ((w.alloc (.cells #[.slice a n cap] 25)).alloc (.cells #[.slice a' n cap'] 25)) := ((Below.refl _ _).alloc (Nat.le_refl _) _).alloc (by simp) _
  refine (eqIntS_same _ _ _ _ _ X _ hn (HS.out.1.kept hba) (HS.out.2.kept hba)).mono ?_
  rintro r w1 ⟨rfl, hb⟩
  have HB : Hid (Below w.heap.size w w1) := hba.trans (hb.mono (by simp; omega))
  clear hba hb
  go_wp2
  go_ret
  exact ⟨rfl, HB.out⟩

set_option maxHeartbeats 1000000 in
theorem markGroup_any (a : Option Addr) (n cap : Nat) (X : Nat → Int) (q : Int) (B C : Nat) (w : World) (hn : n ≤ 1048576) (h0 : 0 ≤ q) (h1 : q ≤ 1099511627776) (hC : C ≤ w.heap.size) (hs : IntS w B C a n X) :
    Calls Try.prog 44 #[.agg #[.slice a n cap], .int .i64 q] w fun r w' => r = .returned (.int .i64 (q + n)) ∧ IntS w' B C a n (fun i => q + i) ∧ Turned B C w w' := by
  have HS : Hid (IntS w B C a n X) := hs
  clear hs
  go_enter Try.func44, Try.ntmps44
  go_wp2_with fail
  have hba : Below w.heap.size w (w.alloc (.cells #[.slice a n cap] 25)) := (Below.refl _ _).alloc (Nat.le_refl _) _
  refine (markIntS_any _ _ _ X _ B C _ hn h0 h1 (HS.out.below hba hC)).mono ?_
  rintro r w1 ⟨rfl, hi, ht⟩
  have HH : Hid (IntS w1 B C a n (fun i => q + i) ∧ Turned B C w w1) := ⟨hi, (Turned.of_below hba).trans ht⟩
  clear hba hi ht
  go_wp2
  go_ret
  exact ⟨rfl, HH.out⟩

set_option maxHeartbeats 1000000 in
theorem heldGroup_any (a : Option Addr) (n cap : Nat) (q : Int) (w : World) (hn : n ≤ 1048576) (h0 : 0 ≤ q) (h1 : q ≤ 1099511627776) (hs : Sl w a n 1 (intF (fun i => q + i))) :
    Calls Try.prog 45 #[.agg #[.slice a n cap], .int .i64 q] w fun r w' => r = .returned (.int .i64 (q + n)) ∧ Below w.heap.size w w' := by
  have HS : Hid (Sl w a n 1 (intF (fun i => q + i))) := hs
  clear hs
  have hq : ¬ q + (n : Int) < 0 := by omega
  go_enter Try.func45, Try.ntmps45
  go_wp2_with fail
  have hba : Below w.heap.size w (w.alloc (.cells #[.slice a n cap] 25)) := (Below.refl _ _).alloc (Nat.le_refl _) _
  refine (heldIntS_any _ _ _ q _ hn h0 h1 (HS.out.kept hba)).mono ?_
  rintro r w1 ⟨rfl, hw⟩
  have hw := hw.symm
  subst hw
  clear hba
  go_wp2
  go_ret
  exact ⟨rfl, (by repeat (first | refine Below.setCell ?_ (by (try simp) <;> omega) _ | refine Below.alloc ?_ (by (try simp) <;> omega) _ | refine Below.drew ?_ | assumption | exact Below.refl _ _ | refine Below.trans ?_ (Below.mono (by assumption) (by (try simp) <;> omega))))⟩
end Go.Proofs.Ytalnmollgielcaa
