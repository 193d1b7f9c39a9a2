/- Leases: the program's small functions on clocks and nodes. -/
import Derived.Test.YtidalpgkljafdaaLeG
import Derived.Test.YtidalpgkljafdaaNtS
import Derived.Test.YtidalpgkljafdaaBx
import Derived.Test.YtidalpgkljafdaaRg2
import Derived.Test.YtidalpgkljafdaaProg
import Derived.WalkKit
import Derived.WalkSpells
import Derived.WalkLawsBesides
import Derived.Deep.QuietTactic
import Derived.BigQuiet
import Derived.Deep.RegionWith
import Derived.Deep.DeepCutAuto
namespace Go.Proofs.Ytidalpgkljafdaa
open Go.RowKit
set_option linter.unusedVariables false
set_option linter.unusedSimpArgs false

theorem ret_int {a b : Int} (h : a = b) : Ending.returned (.int .i64 a) = .returned (.int .i64 b) := by rw [h]
set_option maxRecDepth 100000 in
set_option maxHeartbeats 800000 in
theorem isNear_n (c sk nw : Int) (w : World) (hs : 0 ≤ sk ∧ sk ≤ 1000) (hn : 0 ≤ nw ∧ nw ≤ 2000000) :
    Calls Try.prog 63 #[.agg #[.int .i64 c, .int .i64 sk], .int .i64 nw] w fun r w' => r = .returned (.bool (nearB sk nw c)) ∧ Below w.heap.size w w' := by
  obtain ⟨hs1, hs2⟩ := hs
  obtain ⟨hn1, hn2⟩ := hn
  by_cases hc : 0 ≤ c
  · have hd : decide (0 ≤ c) = true := decide_eq_true hc
    have HR : Hid (nearB sk nw c = inR c (nw - sk) (nw + sk)) := Hid.intro (by simp [nearB, hc])
    go_enter Try.func63, Try.ntmps63
    go_wp2_with (go_at_call 45; refine (inRange_any _ _ _ _).mono ?_; rintro e w' ⟨rfl, rfl⟩)
    go_ret
    exact ⟨ret_bool HR.out.symm, (by repeat (first | refine Below.setCell ?_ (by (try simp) <;> omega) _ | refine Below.alloc ?_ (by (try simp) <;> omega) _ | refine Below.drew ?_ | assumption | exact Below.refl _ _ | refine Below.trans ?_ (Below.mono (by assumption) (by (try simp) <;> omega))))⟩
  · have hd : decide (0 ≤ c) = false := decide_eq_false hc
    have HR : Hid (nearB sk nw c = false) := Hid.intro (by simp [nearB, hc])
    go_enter Try.func63, Try.ntmps63
    go_wp2
    go_ret
    exact ⟨ret_bool HR.out.symm, (by repeat (first | refine Below.setCell ?_ (by (try simp) <;> omega) _ | refine Below.alloc ?_ (by (try simp) <;> omega) _ | refine Below.drew ?_ | assumption | exact Below.refl _ _ | refine Below.trans ?_ (Below.mono (by assumption) (by (try simp) <;> omega))))⟩

set_option maxRecDepth 100000 in
set_option maxHeartbeats 800000 in
theorem latest_n (c sk : Int) (w : World) (hs : 0 ≤ sk ∧ sk ≤ 1000) (hn : 0 ≤ c ∧ c ≤ 2000000) :
    Calls Try.prog 69 #[.agg #[.int .i64 c, .int .i64 sk]] w fun r w' => r = .returned (.int .i64 (c + sk)) ∧ Below w.heap.size w w' := by
  obtain ⟨hs1, hs2⟩ := hs
  obtain ⟨hn1, hn2⟩ := hn
  go_enter Try.func69, Try.ntmps69
  go_wp2
  go_ret
  exact ⟨rfl, (by repeat (first | refine Below.setCell ?_ (by (try simp) <;> omega) _ | refine Below.alloc ?_ (by (try simp) <;> omega) _ | refine Below.drew ?_ | assumption | exact Below.refl _ _ | refine Below.trans ?_ (Below.mono (by assumption) (by (try simp) <;> omega))))⟩

set_option maxRecDepth 100000 in
set_option maxHeartbeats 800000 in
theorem hasNode_n (sk nw : Int) (a1 : Option Addr) (n k1 : Nat) (ho un : Int) (v2 : Value) (node : Int) (w : World) (hn : n ≤ 1073741824) (h2 : ∃ a2 m k2, v2 = .slice a2 m k2) :
    Calls Try.prog 46 #[.agg #[.int .i64 sk, .int .i64 nw, .slice a1 n k1, .int .i64 ho, .int .i64 un, v2], .int .i64 node] w fun r w' => r = .returned (.bool (inR node 0 ((n : Int) - 1))) ∧ Below w.heap.size w w' := by
  obtain ⟨a2, m, k2, rfl⟩ := h2
  go_enter Try.func46, Try.ntmps46
  go_wp2_with (go_at_call 45; refine (inRange_any _ _ _ _).mono ?_; rintro e w' ⟨rfl, rfl⟩)
  go_ret
  exact ⟨rfl, (by repeat (first | refine Below.setCell ?_ (by (try simp) <;> omega) _ | refine Below.alloc ?_ (by (try simp) <;> omega) _ | refine Below.drew ?_ | assumption | exact Below.refl _ _ | refine Below.trans ?_ (Below.mono (by assumption) (by (try simp) <;> omega))))⟩

set_option maxRecDepth 100000 in
set_option maxHeartbeats 800000 in
theorem toldAtMost_n (sk nw : Int) (a1 : Option Addr) (n k1 : Nat) (ho un : Int) (a2 : Option Addr) (m k2 : Nat) (node : Int) (w : World) :
    Calls Try.prog 47 #[.agg #[.int .i64 sk, .int .i64 nw, .slice a1 n k1, .int .i64 ho, .int .i64 un, .slice a2 m k2], .int .i64 node] w fun r w' => r = .returned (.int .i64 (toldN nw ho un node)) ∧ Below w.heap.size w w' := by
  by_cases h : node = ho
  · have HR : Hid (toldN nw ho un node = un) := Hid.intro (by rw [toldN, if_pos h])
    go_enter Try.func47, Try.ntmps47
    go_wp2
    go_ret
    exact ⟨ret_int HR.out.symm, (by repeat (first | refine Below.setCell ?_ (by (try simp) <;> omega) _ | refine Below.alloc ?_ (by (try simp) <;> omega) _ | refine Below.drew ?_ | assumption | exact Below.refl _ _ | refine Below.trans ?_ (Below.mono (by assumption) (by (try simp) <;> omega))))⟩
  · have HR : Hid (toldN nw ho un node = min un nw) := Hid.intro (by rw [toldN, if_neg h])
    go_enter Try.func47, Try.ntmps47
    go_wp2
    all_goals (go_ret; exact ⟨ret_int (by rw [HR.out]; omega), (by repeat (first | refine Below.setCell ?_ (by (try simp) <;> omega) _ | refine Below.alloc ?_ (by (try simp) <;> omega) _ | refine Below.drew ?_ | assumption | exact Below.refl _ _ | refine Below.trans ?_ (Below.mono (by assumption) (by (try simp) <;> omega))))⟩)

set_option maxRecDepth 100000 in
set_option maxHeartbeats 800000 in
theorem nodeIn_n (sk nw : Int) (a1 : Option Addr) (n k1 : Nat) (ho un : Int) (a2 : Option Addr) (m k2 k : Nat) (w : World) (C K : Nat → Int) (hk1 : k < n) (hk2 : k < m) (h1 : Sl w a1 n 1 (intF C)) (h2 : Sl w a2 m 1 (intF K)) :
    Calls Try.prog 52 #[.agg #[.int .i64 sk, .int .i64 nw, .slice a1 n k1, .int .i64 ho, .int .i64 un, .slice a2 m k2], .int .i64 k] w fun r w' => r = .returned (.agg #[.int .i64 (C k), .int .i64 sk, .int .i64 (K k)]) ∧ Below w.heap.size w w' := by
  rcases h1 with h1 | ⟨b1, o1, rfl, hb1, hE1⟩
  · omega
  rcases h2 with h2 | ⟨b2, o2, rfl, hb2, hE2⟩
  · omega
  have c1 := int_cell hE1 hk1
  have c2 := int_cell hE2 hk2
  have l1 : (k : Int) < (n : Int) := by omega
  have l2 : (k : Int) < (m : Int) := by omega
  clear hE1 hE2
  generalize C k = x at *
  generalize K k = y at *
  go_enter Try.func52, Try.ntmps52
  go_wp2_with fail
  go_region
  go_wp2
  refine bodyPost_ret (v := .agg #[.int .i64 x, .int .i64 sk, .int .i64 y]) (by simp [results, Try.results52, go_sem]) rfl ⟨rfl, (by repeat (first | refine Below.setCell ?_ (by (try simp) <;> omega) _ | refine Below.alloc ?_ (by (try simp) <;> omega) _ | refine Below.drew ?_ | assumption | exact Below.refl _ _ | refine Below.trans ?_ (Below.mono (by assumption) (by (try simp) <;> omega))))⟩

set_option maxRecDepth 100000 in
set_option maxHeartbeats 800000 in
theorem believes_n (c sk k : Int) (w : World) (hs : 0 ≤ sk ∧ sk ≤ 1000) (hn : 0 ≤ c ∧ c ≤ 2000000) :
    Calls Try.prog 62 #[.agg #[.int .i64 c, .int .i64 sk, .int .i64 k]] w fun r w' => r = .returned (.bool (decide (c + sk < k))) ∧ Below w.heap.size w w' := by
  have HS : Hid ((0 ≤ sk ∧ sk ≤ 1000) ∧ (0 ≤ c ∧ c ≤ 2000000)) := ⟨hs, hn⟩
  clear hs hn
  have HB0 : Hid (Bx (w.alloc (.cells #[.int .i64 c, .int .i64 sk, .int .i64 k] 80)) w.heap.size [.int .i64 c, .int .i64 sk, .int .i64 k] ∧ Below w.heap.size w (w.alloc (.cells #[.int .i64 c, .int .i64 sk, .int .i64 k] 80))) := ⟨Bx.new w [_, _, _] _, Go.Joins.below_alloc1 _ _⟩
  go_enter Try.func62, Try.ntmps62
  go_upto_region 1 with fail
  obtain ⟨w0, hw0⟩ : ∃ x, x = w.alloc (.cells #[.int .i64 c, .int .i64 sk, .int .i64 k] 80) := ⟨_, rfl⟩
  rw [← hw0] at HB0 ⊢
  clear hw0
  have HB1 : Hid (Bx w0.drew w.heap.size [.int .i64 c, .int .i64 sk, .int .i64 k] ∧ Below w.heap.size w w0.drew) := ⟨HB0.out.1.next (below_drew _), below_next HB0.out.2 (below_drew _)⟩
  refine wp_region_noPanic ?_
  refine wp_region_held_drew (S := fun W => Bx W w.heap.size [.int .i64 c, .int .i64 sk, .int .i64 k]) (by kernel_rfl) HB1.out.1 (fun hHeld => ?_)
  refine take_v (v := ?_) 0 ⟨some 3, Op.fieldAddr 80 (Operand.tmp 1) 0, _, _, _, none⟩ rfl (fun _ _ _ h => h) ?_ hHeld ?_
  rotate_left
  · (intro W _; go_simp <;> (try with_reducible rfl))
  refine take_v (v := ?_) 1 ⟨some 4, Op.load 78 (Operand.tmp 3), _, _, _, none⟩ rfl (fun _ _ _ h => h) ?_ hHeld ?_
  rotate_left
  · (intro W hSW; (have s0 := hSW.cell 0 rfl; have s1 := hSW.cell 1 rfl; have s2 := hSW.cell 2 rfl; have sz := hSW.2); go_simp <;> (try with_reducible rfl))
  refine take_v (v := ?_) 3 ⟨some 6, Op.fieldAddr 80 (Operand.tmp 1) 1, _, _, _, none⟩ rfl (fun _ _ _ h => h) ?_ hHeld ?_
  rotate_left
  · (intro W _; go_simp <;> (try with_reducible rfl))
  refine take_v (v := ?_) 4 ⟨some 7, Op.load 3 (Operand.tmp 6), _, _, _, none⟩ rfl (fun _ _ _ h => h) ?_ hHeld ?_
  rotate_left
  · (intro W hSW; (have s0 := hSW.cell 0 rfl; have s1 := hSW.cell 1 rfl; have s2 := hSW.cell 2 rfl; have sz := hSW.2); go_simp <;> (try with_reducible rfl))
  refine ready_call 2 ⟨some 5, Op.call { callee := Callee.value (Operand.func 69), args := #[Operand.tmp 4], argTypes := #[78] }, _, _, _, none⟩ (by kernel_rfl) rfl (by kernel_rfl) (fun KC hK => ?_)
  go_wp2_with fail
  refine (latest_n _ _ _ HS.out.1 HS.out.2).mono ?_
  rintro r w3 ⟨rfl, hb⟩
  have HB3 : Hid (Bx w3 w.heap.size [.int .i64 c, .int .i64 sk, .int .i64 k] ∧ Below w.heap.size w w3) := ⟨HB1.out.1.next hb, below_next HB1.out.2 hb⟩
  clear hb
  refine hK.out _ _ HB3.out.1 (fun hHeld => ?_)
  clear hK KC
  refine take_v (v := ?_) 5 ⟨some 8, Op.binOp BinOp.lss 3 (Operand.tmp 5) (Operand.tmp 7) 3, _, _, _, none⟩ rfl (fun _ _ _ h => h) ?_ hHeld ?_
  rotate_left
  · (intro W _; go_simp <;> (try with_reducible rfl))
  refine take_v (v := ?_) 6 ⟨some 2, Op.assign (Operand.tmp 8), _, _, _, none⟩ rfl (fun _ _ _ h => h) ?_ hHeld ?_
  rotate_left
  · (intro W _; go_simp <;> (try with_reducible rfl))
  refine wpAnyH_done (by kernel_rfl) ?_ _
  refine NoPanic.normal ?_
  clear hHeld
  go_wp2
  go_ret
  exact ⟨rfl, HB3.out.2⟩

set_option maxRecDepth 100000 in
set_option maxHeartbeats 800000 in
theorem safeUntil_n (c sk k : Int) (w : World) (hs : 0 ≤ sk ∧ sk ≤ 1000) (hn : 0 ≤ k ∧ k ≤ 2000000) :
    Calls Try.prog 53 #[.agg #[.int .i64 c, .int .i64 sk, .int .i64 k]] w fun r w' => r = .returned (.int .i64 (max 0 (k - sk))) ∧ Below w.heap.size w w' := by
  obtain ⟨hs1, hs2⟩ := hs
  obtain ⟨hn1, hn2⟩ := hn
  go_enter Try.func53, Try.ntmps53
  go_wp2
  all_goals (go_ret; exact ⟨ret_int (by omega), (by repeat (first | refine Below.setCell ?_ (by (try simp) <;> omega) _ | refine Below.alloc ?_ (by (try simp) <;> omega) _ | refine Below.drew ?_ | assumption | exact Below.refl _ _ | refine Below.trans ?_ (Below.mono (by assumption) (by (try simp) <;> omega))))⟩)
end Go.Proofs.Ytidalpgkljafdaa
