/- The contracts of IsLinear, IsSequential and LinearOrder, on both sides. -/
import Derived.Test.YtkniokbioggkeaaLsT
import Derived.Test.YtkniokbioggkeaaOnX
import Derived.Test.YtkniokbioggkeaaFoG
import Derived.Test.YtkniokbioggkeaaCaL
import Derived.Test.YtkniokbioggkeaaCaS
namespace Go.Proofs.Ytkniokbioggkeaa
open Go.RowKit
set_option linter.unusedVariables false

/-- There is an order. -/
def linB (own : Bool) (V : Nat → CallV) (n : Nat) : Bool := calsB V n && (srch V n own n []).isSome
def linL (V : Nat → CallV) (n : Nat) : List Nat := if linB false V n = true then (srch V n false n []).getD [] else []
theorem lin_no {own : Bool} {V : Nat → CallV} {n : Nat} (h : calsB V n = false) : linB own V n = false := by simp [linB, h]
theorem lin_some {own : Bool} {V : Nat → CallV} {n : Nat} {o : List Nat} (h : calsB V n = true) (ho : srch V n own n [] = some o) : linB own V n = true := by simp [linB, h, ho]
theorem lin_none {own : Bool} {V : Nat → CallV} {n : Nat} (h : srch V n own n [] = none) : linB own V n = false := by simp [linB, h]
theorem linL_no {V : Nat → CallV} {n : Nat} (h : linB false V n = false) : linL V n = [] := by simp [linL, h]
theorem linL_some {V : Nat → CallV} {n : Nat} {o : List Nat} (h : calsB V n = true) (ho : srch V n false n [] = some o) : linL V n = o := by simp [linL, lin_some h ho, ho]
def LinPost (own : Bool) (V : Nat → CallV) (n : Nat) (w : World) (r : Ending) (w' : World) : Prop := r = .returned (.tuple #[.bool (linB own V n), .bool (calsB V n)]) ∧ Below w.heap.size w w'
theorem lin_post {own : Bool} {V : Nat → CallV} {n : Nat} {w w' : World} {x y : Bool} (h1 : linB own V n = x) (h2 : calsB V n = y) (hb : Below w.heap.size w w') : LinPost own V n w (.returned (.tuple #[.bool x, .bool y])) w' := by
  rw [LinPost, h1, h2]; exact ⟨rfl, hb⟩
def LorPost (V : Nat → CallV) (n : Nat) (w : World) (r : Ending) (w' : World) : Prop :=
  ∃ a' c', r = .returned (.tuple #[.slice a' (linL V n).length c', .bool (linB false V n)]) ∧ w'.ownsRow w.heap.size 3 1 (.slice a' (linL V n).length c') (linL V n).length (ordC (linL V n)) ∧ Below w.heap.size w w'
theorem lor_no {V : Nat → CallV} {n : Nat} {w w' : World} (h : linB false V n = false) (hb : Below w.heap.size w w') : LorPost V n w (.returned (.tuple #[.slice none 0 0, .bool false])) w' := by
  refine ⟨none, 0, ?_, ?_, hb⟩
  · rw [linL_no h, h]; rfl
  · rw [linL_no h]; exact World.ownsRow_nil _ _ _ _
theorem lor_yes {V : Nat → CallV} {n : Nat} {w w' : World} {o : List Nat} {a' : Option Addr} {c' : Nat} (h : calsB V n = true) (ho : srch V n false n [] = some o) (hw : w'.ownsRow w.heap.size 3 1 (.slice a' o.length c') o.length (ordC o)) (hb : Below w.heap.size w w') : LorPost V n w (.returned (.tuple #[.slice a' o.length c', .bool true])) w' := by
  refine ⟨a', c', ?_, ?_, hb⟩
  · rw [linL_some h ho, lin_some h ho]
  · rw [linL_some h ho]; exact hw

set_option maxRecDepth 100000 in
set_option maxHeartbeats 4000000 in
theorem isLinear_any (a : Option Addr) (n cap : Nat) (V : Nat → CallV) (w : World) (hn : n ≤ 1048576) (hcap : n ≤ cap) (hz : ∀ i, i < n → (V i).f2.size ≤ maxLen ∧ (V i).f3.size ≤ maxLen) (hs : Sl w a n 6 (callF V)) :
    Calls Try.prog 11 #[.slice a n cap] w fun r w' => LinPost false V n w r w' := by
  have HS : Hid (Sl w a n 6 (callF V) ∧ (∀ i, i < n → (V i).f2.size ≤ maxLen ∧ (V i).f3.size ≤ maxLen)) := ⟨hs, hz⟩
  clear hs hz
  go_enter Try.func11, Try.ntmps11
  go_wp2_with fail
  refine (goodCalls_any _ _ _ V _ hn hcap HS.out.2 HS.out.1).mono ?_
  rintro r w1 ⟨rfl, hb⟩
  have H1 : Hid (Below w.heap.size w w1) := hb
  clear hb
  cases e1 : calsB V n
  · have HN : Hid (LinPost false V n w (.returned (.tuple #[.bool false, .bool false])) w1) := lin_post (lin_no e1) e1 H1.out
    go_wp2
    exact bodyPost_ret (v := .tuple #[.bool false, .bool false]) (by simp [results, Try.results11, go_sem]) rfl HN.out
  have HG : Hid (n ≤ 7 ∧ (∀ i, i < n → (V i).f2.size ≤ 281474976710656) ∧ Sl w1 a n 6 (callF V)) := ⟨(calsB_iff.1 e1).1, fun i hi => by have := cals_key e1 hi; omega, HS.out.1.below H1.out (Nat.le_refl _)⟩
  go_wp2_with fail
  refine (firstOrder_any false a n cap V _ HG.out.1 HG.out.2.1 HG.out.2.2).mono ?_
  rintro r w2 ⟨⟨o, v, ho, rfl, hown⟩ | ⟨ho, rfl⟩, hb⟩
  · have HZ : Hid (LinPost false V n w (.returned (.tuple #[.bool true, .bool true])) w2) := lin_post (lin_some e1 ho) e1 (below_nx H1.out hb)
    obtain ⟨oa, oc, rfl⟩ : ∃ oa oc, v = .slice oa o.length oc := by
      rcases Go.Joins.ownsRow_forms hown with ⟨e, e'⟩ | ⟨gg, cc, e⟩
      · exact ⟨none, 0, by rw [e, e']⟩
      · exact ⟨_, _, e⟩
    clear hown ho hb
    go_wp2
    exact bodyPost_ret (v := .tuple #[.bool true, .bool true]) (by simp [results, Try.results11, go_sem]) rfl HZ.out
  · have HZ : Hid (LinPost false V n w (.returned (.tuple #[.bool false, .bool true])) w2) := lin_post (lin_none ho) e1 (below_nx H1.out hb)
    clear ho hb
    go_wp2
    exact bodyPost_ret (v := .tuple #[.bool false, .bool true]) (by simp [results, Try.results11, go_sem]) rfl HZ.out

set_option maxRecDepth 100000 in
set_option maxHeartbeats 4000000 in
theorem isSequential_any (a : Option Addr) (n cap : Nat) (V : Nat → CallV) (w : World) (hn : n ≤ 1048576) (hcap : n ≤ cap) (hz : ∀ i, i < n → (V i).f2.size ≤ maxLen ∧ (V i).f3.size ≤ maxLen) (hs : Sl w a n 6 (callF V)) :
    Calls Try.prog 19 #[.slice a n cap] w fun r w' => LinPost true V n w r w' := by
  have HS : Hid (Sl w a n 6 (callF V) ∧ (∀ i, i < n → (V i).f2.size ≤ maxLen ∧ (V i).f3.size ≤ maxLen)) := ⟨hs, hz⟩
  clear hs hz
  go_enter Try.func19, Try.ntmps19
  go_wp2_with fail
  refine (goodCalls_any _ _ _ V _ hn hcap HS.out.2 HS.out.1).mono ?_
  rintro r w1 ⟨rfl, hb⟩
  have H1 : Hid (Below w.heap.size w w1) := hb
  clear hb
  cases e1 : calsB V n
  · have HN : Hid (LinPost true V n w (.returned (.tuple #[.bool false, .bool false])) w1) := lin_post (lin_no e1) e1 H1.out
    go_wp2
    exact bodyPost_ret (v := .tuple #[.bool false, .bool false]) (by simp [results, Try.results19, go_sem]) rfl HN.out
  have HG : Hid (n ≤ 7 ∧ (∀ i, i < n → (V i).f2.size ≤ 281474976710656) ∧ Sl w1 a n 6 (callF V)) := ⟨(calsB_iff.1 e1).1, fun i hi => by have := cals_key e1 hi; omega, HS.out.1.below H1.out (Nat.le_refl _)⟩
  go_wp2_with fail
  refine (firstOrder_any true a n cap V _ HG.out.1 HG.out.2.1 HG.out.2.2).mono ?_
  rintro r w2 ⟨⟨o, v, ho, rfl, hown⟩ | ⟨ho, rfl⟩, hb⟩
  · have HZ : Hid (LinPost true V n w (.returned (.tuple #[.bool true, .bool true])) w2) := lin_post (lin_some e1 ho) e1 (below_nx H1.out hb)
    obtain ⟨oa, oc, rfl⟩ : ∃ oa oc, v = .slice oa o.length oc := by
      rcases Go.Joins.ownsRow_forms hown with ⟨e, e'⟩ | ⟨gg, cc, e⟩
      · exact ⟨none, 0, by rw [e, e']⟩
      · exact ⟨_, _, e⟩
    clear hown ho hb
    go_wp2
    exact bodyPost_ret (v := .tuple #[.bool true, .bool true]) (by simp [results, Try.results19, go_sem]) rfl HZ.out
  · have HZ : Hid (LinPost true V n w (.returned (.tuple #[.bool false, .bool true])) w2) := lin_post (lin_none ho) e1 (below_nx H1.out hb)
    clear ho hb
    go_wp2
    exact bodyPost_ret (v := .tuple #[.bool false, .bool true]) (by simp [results, Try.results19, go_sem]) rfl HZ.out

set_option maxRecDepth 100000 in
set_option maxHeartbeats 4000000 in
theorem linearOrder_any (a : Option Addr) (n cap : Nat) (V : Nat → CallV) (w : World) (hn : n ≤ 1048576) (hcap : n ≤ cap) (hz : ∀ i, i < n → (V i).f2.size ≤ maxLen ∧ (V i).f3.size ≤ maxLen) (hs : Sl w a n 6 (callF V)) :
    Calls Try.prog 15 #[.slice a n cap] w fun r w' => LorPost V n w r w' := by
  have HS : Hid (Sl w a n 6 (callF V) ∧ (∀ i, i < n → (V i).f2.size ≤ maxLen ∧ (V i).f3.size ≤ maxLen)) := ⟨hs, hz⟩
  clear hs hz
  go_enter Try.func15, Try.ntmps15
  go_wp2_with fail
  refine (goodCalls_any _ _ _ V _ hn hcap HS.out.2 HS.out.1).mono ?_
  rintro r w1 ⟨rfl, hb⟩
  have H1 : Hid (Below w.heap.size w w1) := hb
  clear hb
  cases e1 : calsB V n
  · have HN : Hid (LorPost V n w (.returned (.tuple #[.slice none 0 0, .bool false])) w1) := lor_no (lin_no e1) H1.out
    go_wp2
    exact bodyPost_ret (v := .tuple #[.slice none 0 0, .bool false]) (by simp [results, Try.results15, go_sem]) rfl HN.out
  have HG : Hid (n ≤ 7 ∧ (∀ i, i < n → (V i).f2.size ≤ 281474976710656) ∧ Sl w1 a n 6 (callF V)) := ⟨(calsB_iff.1 e1).1, fun i hi => by have := cals_key e1 hi; omega, HS.out.1.below H1.out (Nat.le_refl _)⟩
  go_wp2_with fail
  refine (firstOrder_any false a n cap V _ HG.out.1 HG.out.2.1 HG.out.2.2).mono ?_
  rintro r w2 ⟨⟨o, v, ho, rfl, hown⟩ | ⟨ho, rfl⟩, hb⟩
  · skip
    obtain ⟨a', c', rfl⟩ : ∃ oa oc, v = .slice oa o.length oc := by
      rcases Go.Joins.ownsRow_forms hown with ⟨e, e'⟩ | ⟨gg, cc, e⟩
      · exact ⟨none, 0, by rw [e, e']⟩
      · exact ⟨_, _, e⟩
    have HZ : Hid (LorPost V n w (.returned (.tuple #[.slice a' o.length c', .bool true])) w2) := lor_yes e1 ho (own_lo hown (by have := H1.out.size; omega)) (below_nx H1.out hb)
    clear hown ho hb
    go_wp2
    exact bodyPost_ret (v := .tuple #[.slice a' o.length c', .bool true]) (by simp [results, Try.results15, go_sem]) rfl HZ.out
  · have HZ : Hid (LorPost V n w (.returned (.tuple #[.slice none 0 0, .bool false])) w2) := lor_no (lin_none ho) (below_nx H1.out hb)
    clear ho hb
    go_wp2
    exact bodyPost_ret (v := .tuple #[.slice none 0 0, .bool false]) (by simp [results, Try.results15, go_sem]) rfl HZ.out

set_option maxRecDepth 100000 in
set_option maxHeartbeats 4000000 in
theorem specIsLinear_any (a : Option Addr) (n cap : Nat) (V : Nat → CallV) (w : World) (hn : n ≤ 1048576) (hcap : n ≤ cap) (hz : ∀ i, i < n → (V i).f2.size ≤ maxLen ∧ (V i).f3.size ≤ maxLen) (hs : Sl w a n 6 (callF V)) :
    Calls Try.prog 12 #[.slice a n cap] w fun r w' => LinPost false V n w r w' := by
  have HS : Hid (Sl w a n 6 (callF V) ∧ (∀ i, i < n → (V i).f2.size ≤ maxLen ∧ (V i).f3.size ≤ maxLen)) := ⟨hs, hz⟩
  clear hs hz
  go_enter Try.func12, Try.ntmps12
  go_wp2_with fail
  refine (specGoodCalls_any _ _ _ V _ hn hcap HS.out.2 HS.out.1).mono ?_
  rintro r w1 ⟨rfl, hb⟩
  have H1 : Hid (Below w.heap.size w w1) := hb
  clear hb
  cases e1 : calsB V n
  · have HN : Hid (LinPost false V n w (.returned (.tuple #[.bool false, .bool false])) w1) := lin_post (lin_no e1) e1 H1.out
    go_wp2
    exact bodyPost_ret (v := .tuple #[.bool false, .bool false]) (by simp [results, Try.results12, go_sem]) rfl HN.out
  have HG : Hid (n ≤ 7 ∧ (∀ i, i < n → (V i).f2.size ≤ 281474976710656) ∧ Sl w1 a n 6 (callF V)) := ⟨(calsB_iff.1 e1).1, fun i hi => by have := cals_key e1 hi; omega, HS.out.1.below H1.out (Nat.le_refl _)⟩
  go_wp2_with fail
  refine (l7Search_any false a n cap V _ HG.out.1 HG.out.2.2).mono ?_
  rintro r w2 ⟨⟨o, a', c', ho, rfl, hown⟩ | ⟨ho, a', c', rfl⟩, hb⟩
  · have HZ : Hid (LinPost false V n w (.returned (.tuple #[.bool true, .bool true])) w2) := lin_post (lin_some e1 ho) e1 (below_nx H1.out hb)
    clear hown ho hb
    go_wp2
    exact bodyPost_ret (v := .tuple #[.bool true, .bool true]) (by simp [results, Try.results12, go_sem]) rfl HZ.out
  · have HZ : Hid (LinPost false V n w (.returned (.tuple #[.bool false, .bool true])) w2) := lin_post (lin_none ho) e1 (below_nx H1.out hb)
    clear ho hb
    go_wp2
    exact bodyPost_ret (v := .tuple #[.bool false, .bool true]) (by simp [results, Try.results12, go_sem]) rfl HZ.out

set_option maxRecDepth 100000 in
set_option maxHeartbeats 4000000 in
theorem specIsSequential_any (a : Option Addr) (n cap : Nat) (V : Nat → CallV) (w : World) (hn : n ≤ 1048576) (hcap : n ≤ cap) (hz : ∀ i, i < n → (V i).f2.size ≤ maxLen ∧ (V i).f3.size ≤ maxLen) (hs : Sl w a n 6 (callF V)) :
    Calls Try.prog 22 #[.slice a n cap] w fun r w' => LinPost true V n w r w' := by
  have HS : Hid (Sl w a n 6 (callF V) ∧ (∀ i, i < n → (V i).f2.size ≤ maxLen ∧ (V i).f3.size ≤ maxLen)) := ⟨hs, hz⟩
  clear hs hz
  go_enter Try.func22, Try.ntmps22
  go_wp2_with fail
  refine (specGoodCalls_any _ _ _ V _ hn hcap HS.out.2 HS.out.1).mono ?_
  rintro r w1 ⟨rfl, hb⟩
  have H1 : Hid (Below w.heap.size w w1) := hb
  clear hb
  cases e1 : calsB V n
  · have HN : Hid (LinPost true V n w (.returned (.tuple #[.bool false, .bool false])) w1) := lin_post (lin_no e1) e1 H1.out
    go_wp2
    exact bodyPost_ret (v := .tuple #[.bool false, .bool false]) (by simp [results, Try.results22, go_sem]) rfl HN.out
  have HG : Hid (n ≤ 7 ∧ (∀ i, i < n → (V i).f2.size ≤ 281474976710656) ∧ Sl w1 a n 6 (callF V)) := ⟨(calsB_iff.1 e1).1, fun i hi => by have := cals_key e1 hi; omega, HS.out.1.below H1.out (Nat.le_refl _)⟩
  go_wp2_with fail
  refine (l7Search_any true a n cap V _ HG.out.1 HG.out.2.2).mono ?_
  rintro r w2 ⟨⟨o, a', c', ho, rfl, hown⟩ | ⟨ho, a', c', rfl⟩, hb⟩
  · have HZ : Hid (LinPost true V n w (.returned (.tuple #[.bool true, .bool true])) w2) := lin_post (lin_some e1 ho) e1 (below_nx H1.out hb)
    clear hown ho hb
    go_wp2
    exact bodyPost_ret (v := .tuple #[.bool true, .bool true]) (by simp [results, Try.results22, go_sem]) rfl HZ.out
  · have HZ : Hid (LinPost true V n w (.returned (.tuple #[.bool false, .bool true])) w2) := lin_post (lin_none ho) e1 (below_nx H1.out hb)
    clear ho hb
    go_wp2
    exact bodyPost_ret (v := .tuple #[.bool false, .bool true]) (by simp [results, Try.results22, go_sem]) rfl HZ.out

set_option maxRecDepth 100000 in
set_option maxHeartbeats 4000000 in
theorem specLinearOrder_any (a : Option Addr) (n cap : Nat) (V : Nat → CallV) (w : World) (hn : n ≤ 1048576) (hcap : n ≤ cap) (hz : ∀ i, i < n → (V i).f2.size ≤ maxLen ∧ (V i).f3.size ≤ maxLen) (hs : Sl w a n 6 (callF V)) :
    Calls Try.prog 16 #[.slice a n cap] w fun r w' => LorPost V n w r w' := by
  have HS : Hid (Sl w a n 6 (callF V) ∧ (∀ i, i < n → (V i).f2.size ≤ maxLen ∧ (V i).f3.size ≤ maxLen)) := ⟨hs, hz⟩
  clear hs hz
  go_enter Try.func16, Try.ntmps16
  go_wp2_with fail
  refine (specGoodCalls_any _ _ _ V _ hn hcap HS.out.2 HS.out.1).mono ?_
  rintro r w1 ⟨rfl, hb⟩
  have H1 : Hid (Below w.heap.size w w1) := hb
  clear hb
  cases e1 : calsB V n
  · have HN : Hid (LorPost V n w (.returned (.tuple #[.slice none 0 0, .bool false])) w1) := lor_no (lin_no e1) H1.out
    go_wp2
    exact bodyPost_ret (v := .tuple #[.slice none 0 0, .bool false]) (by simp [results, Try.results16, go_sem]) rfl HN.out
  have HG : Hid (n ≤ 7 ∧ (∀ i, i < n → (V i).f2.size ≤ 281474976710656) ∧ Sl w1 a n 6 (callF V)) := ⟨(calsB_iff.1 e1).1, fun i hi => by have := cals_key e1 hi; omega, HS.out.1.below H1.out (Nat.le_refl _)⟩
  go_wp2_with fail
  refine (l7Search_any false a n cap V _ HG.out.1 HG.out.2.2).mono ?_
  rintro r w2 ⟨⟨o, a', c', ho, rfl, hown⟩ | ⟨ho, a', c', rfl⟩, hb⟩
  · skip
    have HZ : Hid (LorPost V n w (.returned (.tuple #[.slice a' o.length c', .bool true])) w2) := lor_yes e1 ho (own_lo hown (by have := H1.out.size; omega)) (below_nx H1.out hb)
    clear hown ho hb
    go_wp2
    exact bodyPost_ret (v := .tuple #[.slice a' o.length c', .bool true]) (by simp [results, Try.results16, go_sem]) rfl HZ.out
  · have HZ : Hid (LorPost V n w (.returned (.tuple #[.slice none 0 0, .bool false])) w2) := lor_no (lin_none ho) (below_nx H1.out hb)
    clear ho hb
    go_wp2
    exact bodyPost_ret (v := .tuple #[.slice none 0 0, .bool false]) (by simp [results, Try.results16, go_sem]) rfl HZ.out
end Go.Proofs.Ytkniokbioggkeaa
