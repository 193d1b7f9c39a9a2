/- entriesOf, as an iterator: each entry of a list, in order. -/
import Derived.RangeFuncNested
import Derived.RangeFuncBound
import Derived.RangeFuncCalls
import Derived.RangeFuncLeaves
import Derived.Shelf.Abstract
import Derived.Shelf.RegionOpen
import Derived.WalkKit
import Derived.OwnWalkIn
import Derived.TacticsInMore
import Derived.LoopNIn
import Derived.LoopIn
import Derived.Test.YtiepfdkfadbllaaLgG
import Derived.Test.YtiepfdkfadbllaaClEntry
namespace Go.Proofs.Ytiepfdkfadbllaa
open Go.RowKit Go.Shelf
set_option linter.unusedVariables false
attribute [local go_sem] Oper.semAt_some

theorem grw_none {w w' : World} (h : Below w.heap.size w w') : w.grownBy w' none := ⟨h.os, h.tape, h.output, h.size, fun k hk _ => h.block k hk⟩
set_option maxRecDepth 100000 in
set_option maxHeartbeats 4000000 in
theorem ent1_in (n : Nat) (hn : 1 ≤ n) (l Bs n₀ b off len cap : Nat) (V : Nat → EntryV) (hreach : len ≤ 1048576) (hb : b < n₀) (hBn : Bs < n₀) (hz : ∀ i, i < len → (V i).f1.size ≤ 281474976710656 ∧ (V i).f2.size ≤ 281474976710656) (J Jx : List Nat → World → Prop) (B : Nat) (hJa : AbidesFrom B J)
    (hY : ∀ (pre : List Nat) (x : Nat) (W : World), J pre W → pre.length < len → YieldAt Fence.wide (n - 1) Try.prog l #[.agg #[.int .i64 (V x).f0, .string (V x).f1, .string (V x).f2, .int .i64 (V x).f3, .int .i64 (V x).f4, .bool (V x).f5]] W fun e W' =>
      (e = .returned (.bool true) ∧ J (pre ++ [x]) W' ∧ Below n₀ W W') ∨ (e = .returned (.bool false) ∧ Jx (pre ++ [x]) W'))
    (W : World) (hn0 : n₀ ≤ W.heap.size) (hBs : W.cell? ⟨Bs, 0, none⟩ = some (.slice (some ⟨b, off, none⟩) len cap)) (hc : Elems W b off len 6 (entryF V)) (h0 : J [] W) :
    CallsIn Fence.wide n Try.prog 56 #[.func (.yield l) #[] #[], .pointer (some ⟨Bs, 0, none⟩)] W fun e W' => (∃ v, e = .returned v) ∧
      ((∃ ys, ys = List.range len ∧ J ys W') ∨ (∃ pre, (∃ k, k ≤ len ∧ pre = List.range k) ∧ Jx pre W')) := by
  refine callsIn_of_wp Try.func56 rfl trivial ?_ rfl
  simp only [Try.ntmps56, List.size_toArray, List.length_cons, List.length_nil, Nat.reduceAdd, Nat.reduceSub, Array.replicate_succ, Array.replicate_zero, List.push_toArray, List.append_toArray, List.nil_append, List.cons_append]
  have HC : Hid (Elems W b off len 6 (entryF V)) := hc
  clear hc
  gi_wp2
  gi_loopw [7] (fun i wr => ∃ k : Nat, k ≤ len ∧ i = .int .i64 k ∧ J (List.range k) wr ∧ Below n₀ W wr) (fun i _ => len - (intOf i).toNat)
  case atStart => exact ⟨0, Nat.zero_le _, rfl, h0, Below.refl _ _⟩
  case round =>
    obtain ⟨k, hk, rfl, hJs, hnx⟩ := hrel
    by_cases hlt : k < len
    · have hlt' : (k : Int) < (len : Int) := by omega
      obtain ⟨c0, c1, c2, c3, c4, c5⟩ := entry_cells (HC.out.below hnx hb) hlt
      have hzk := hz k hlt
      have hwn : n₀ ≤ wr.heap.size := by have := hnx.size; omega
      gi_wp2_with fail
      refine ⟨trivial, ((callsIn_wide).2 (cloneEntry_any (V k) _ hzk.1 hzk.2)).mono ?_⟩
      rintro e w1 ⟨rfl, hb1⟩
      have hbw : Below wr.heap.size wr w1 := below_nx (Go.Joins.below_alloc1 _ _) hb1
      have hJ1 : J (List.range k) w1 := hJa _ _ _ none hJs (grw_none hbw) (fun r e => by cases e)
      have hn1 : Below n₀ W w1 := hnx.trans (hbw.mono hwn)
      clear c0 c1 c2 c3 c4 c5 hb1 hbw
      obtain ⟨fn, tmps, assign, body, hy, hR⟩ := hY _ k w1 hJ1 (by simp; exact hlt)
      (try dsimp only at hy)
      gi_wp2
      refine hR.mono ?_
      rintro e W3 (⟨rfl, hJ3, hk3⟩ | ⟨rfl, hJx3⟩)
      · gi_wp2
        go_roundw
        case rel => exact ⟨k + 1, by omega, by go_num, by rw [List.range_succ]; exact hJ3, hn1.trans hk3⟩
        case measure => simp [intOf]; omega
      · gi_wp2
        refine bodyPost_ret (results_none rfl _ _ _) rfl ?_
        exact ⟨⟨_, rfl⟩, .inr ⟨_, ⟨k + 1, by omega, by rw [List.range_succ]⟩, hJx3⟩⟩
    · have hkl : k = len := by omega
      have hlt' : ¬ (k : Int) < (len : Int) := by omega
      have HK : Hid (k = len) := hkl
      clear hkl
      gi_wp2
      go_end0
      exact ⟨⟨_, rfl⟩, .inl (by rw [← HK.out]; exact hJs)⟩

set_option maxRecDepth 100000 in
set_option maxHeartbeats 1000000 in
theorem ent1_nil_in (n : Nat) (l Bs : Nat) (a : Option Addr) (cap : Nat) (J : List Nat → World → Prop) (W : World) (hBs : W.cell? ⟨Bs, 0, none⟩ = some (.slice a 0 cap)) (h0 : J [] W) :
    CallsIn Fence.wide n Try.prog 56 #[.func (.yield l) #[] #[], .pointer (some ⟨Bs, 0, none⟩)] W fun e W' => (∃ v, e = .returned v) ∧ J [] W' := by
  refine callsIn_of_wp Try.func56 rfl trivial ?_ rfl
  simp only [Try.ntmps56, List.size_toArray, List.length_cons, List.length_nil, Nat.reduceAdd, Nat.reduceSub, Array.replicate_succ, Array.replicate_zero, List.push_toArray, List.append_toArray, List.nil_append, List.cons_append]
  gi_wp2
  gi_loopw [7] (fun i wr => i = .int .i64 0 ∧ J [] wr) (fun _ _ => 0)
  case atStart => exact ⟨rfl, h0⟩
  case round =>
    obtain ⟨rfl, hJs⟩ := hrel
    gi_wp2
    go_end0
    exact ⟨⟨_, rfl⟩, hJs⟩

theorem ent_stops (n : Nat) (hn : 1 ≤ n) (Bs : Nat) (a : Option Addr) (len cap : Nat) (V : Nat → EntryV) (hreach : len ≤ 1048576) (w : World) (hBs : Bs < w.heap.size) (hz : ∀ i, i < len → (V i).f1.size ≤ 281474976710656 ∧ (V i).f2.size ≤ 281474976710656)
    (hc : w.cell? ⟨Bs, 0, none⟩ = some (.slice a len cap)) (hs : Sl w a len 6 (entryF V)) :
    SeqStopsK Fence.wide n Try.prog 56 #[.pointer (some ⟨Bs, 0, none⟩)] (fun x : Nat => #[.agg #[.int .i64 (V x).f0, .string (V x).f1, .string (V x).f2, .int .i64 (V x).f3, .int .i64 (V x).f4, .bool (V x).f5]]) (Below w.heap.size) (fun ys => ys = List.range len)
      (fun pre => ∃ k, k ≤ len ∧ pre = List.range k) len w := fun l J Jx W hW hJ hJx hY h0 => by
  have hc' := (hW.cell (p := ⟨Bs, 0, none⟩) hBs).trans hc
  rcases hs.below hW (Nat.le_refl _) with h | ⟨b, off, rfl, hb, hE⟩
  · subst h
    exact (ent1_nil_in n l Bs a cap J W hc' h0).mono fun e W' ⟨he, hj⟩ => ⟨he, .inl ⟨_, rfl, hj⟩⟩
  · rcases Nat.eq_zero_or_pos len with h | hp
    · subst h
      exact (ent1_nil_in n l Bs _ cap J W hc' h0).mono fun e W' ⟨he, hj⟩ => ⟨he, .inl ⟨_, rfl, hj⟩⟩
    · rcases hs with h | ⟨b2, off2, e2, hb2, _⟩
      · omega
      simp only [Option.some.injEq, Addr.mk.injEq, and_true] at e2
      exact ent1_in n hn l Bs w.heap.size b off len cap V hreach (by omega) hBs hz J Jx W.heap.size hJ hY W hW.size hc' hE h0

set_option maxHeartbeats 1000000 in
theorem entriesOf_any (a : Option Addr) (len cap : Nat) (w : World) :
    Calls Try.prog 35 #[.slice a len cap] w fun e w' => e = .returned (.func (.func 56) #[] #[.pointer (some ⟨w.heap.size, 0, none⟩)]) ∧ w' = w.alloc (.cells #[.slice a len cap] 23) := by
  go_enter Try.func35, Try.ntmps35
  go_wp2
  go_ret
  exact ⟨rfl, rfl⟩
end Go.Proofs.Ytiepfdkfadbllaa
