/- A store that came in: what it is in memory; the law's own functions szStore, eqStore. -/
import Derived.Test.YtenfaofhoheleaaGreatRuL
import Derived.Test.YtenfaofhoheleaaGreatRwRecord
import Derived.Test.YtenfaofhoheleaaGreatIntT
namespace Go.Proofs.YtenfaofhoheleaaGreat
open Go.RowKit
set_option linter.unusedVariables false

structure StV where
  ep : Int
  rn : Nat
  R : Nat → RecordV
  tn : Nat
  T : Nat → RuV
  on : Nat
  O : Nat → Int
/-- Where its lists lie. -/
structure StA where
  ra : Option Addr
  rc : Nat
  ta : Option Addr
  tc : Nat
  oa : Option Addr
  oc : Nat
  U : Nat → RuA
def StAt (w : World) (A : StA) (V : StV) : Prop := Sl w A.ra V.rn 6 (recordF V.R) ∧ RuS w A.ta V.tn V.T A.U ∧ Sl w A.oa V.on 1 (intF V.O) ∧ V.rn ≤ A.rc ∧ V.tn ≤ A.tc ∧ V.on ≤ A.oc
theorem StAt.next {w w' : World} {A : StA} {V : StV} (h : StAt w A V) (hb : Below w.heap.size w w') : StAt w' A V := ⟨kept' h.1 hb, h.2.1.next hb, kept' h.2.2.1 hb, h.2.2.2⟩
def StLen (V : StV) : Prop := V.rn ≤ maxLen ∧ V.tn ≤ maxLen ∧ V.on ≤ maxLen ∧ (∀ i, i < V.rn → (V.R i).f0.size ≤ maxLen ∧ (V.R i).f1.size ≤ maxLen) ∧ ∀ i, i < V.tn → RuLen (V.T i)
def StOk (V : StV) : Prop := V.rn ≤ 1048576 ∧ (V.tn ≤ 1048576 ∧ ∀ i, i < V.tn → RuOk (V.T i)) ∧ V.on ≤ 1048576

set_option maxHeartbeats 1000000 in
theorem szStore_any (A : StA) (V : StV) (l : Int) (w : World) (hz : StLen V) (hs : StAt w A V) (h0 : 0 ≤ l) (hb : l ≤ 1048576) :
    Calls Tryz.prog 6 #[.agg #[.int .i64 V.ep, .slice A.ra V.rn A.rc, .slice A.ta V.tn A.tc, .slice A.oa V.on A.oc], .int .i64 l] w fun r w' => ∃ l' : Int, r = .returned (.int .i64 l') ∧ (-1 ≤ l' ∧ l' ≤ 1048576) ∧ (0 ≤ l' → StOk V) ∧ Below w.heap.size w w' := by
  have HS : Hid (StAt w A V ∧ StLen V) := ⟨hs, hz⟩
  clear hs hz
  have H0 : Hid (Bx (w.alloc (.cells #[.int .i64 V.ep, .slice A.ra V.rn A.rc, .slice A.ta V.tn A.tc, .slice A.oa V.on A.oc] 26)) w.heap.size [.int .i64 V.ep, .slice A.ra V.rn A.rc, .slice A.ta V.tn A.tc, .slice A.oa V.on A.oc] ∧ Below w.heap.size w (w.alloc (.cells #[.int .i64 V.ep, .slice A.ra V.rn A.rc, .slice A.ta V.tn A.tc, .slice A.oa V.on A.oc] 26))) := ⟨Bx.new w [.int .i64 V.ep, .slice A.ra V.rn A.rc, .slice A.ta V.tn A.tc, .slice A.oa V.on A.oc] _, Go.Joins.below_alloc1 _ _⟩
  go_enter Tryz.func6, Tryz.ntmps6
  go_wp2_with fail
  refine (szRecordS_any _ _ _ V.R _ _ HS.out.2.1 h0 hb (kept' HS.out.1.1 H0.out.2) HS.out.2.2.2.2.1).mono ?_
  rintro r w1 ⟨l1, rfl, g1, g2, hb1⟩
  have H1 : Hid (Bx w1 w.heap.size [.int .i64 V.ep, .slice A.ra V.rn A.rc, .slice A.ta V.tn A.tc, .slice A.oa V.on A.oc] ∧ Below w.heap.size w w1) := ⟨H0.out.1.next hb1, below_next' H0.out.2 hb1⟩
  clear H0 hb1
  have c2 := H1.out.1.cell 2 rfl
  have z2 := H1.out.1.2
  by_cases q1 : l1 < 0
  · go_wp2
    go_ret
    exact ⟨-1, rfl, by omega, fun h => absurd h (by omega), H1.out.2⟩
  · go_wp2_with fail
    refine (szRunningS_any _ _ _ V.T A.U _ _ HS.out.2.2.1 (by omega) (by omega) (HS.out.1.next H1.out.2).2.1 HS.out.2.2.2.2.2).mono ?_
    rintro r w2 ⟨l2, rfl, g3, g4, hb2⟩
    have H2 : Hid (Bx w2 w.heap.size [.int .i64 V.ep, .slice A.ra V.rn A.rc, .slice A.ta V.tn A.tc, .slice A.oa V.on A.oc] ∧ Below w.heap.size w w2) := ⟨H1.out.1.next hb2, below_next' H1.out.2 hb2⟩
    clear H1 hb2 c2 z2
    have c3 := H2.out.1.cell 3 rfl
    have z3 := H2.out.1.2
    by_cases q2 : l2 < 0
    · go_wp2
      go_ret
      exact ⟨-1, rfl, by omega, fun h => absurd h (by omega), H2.out.2⟩
    · go_wp2_with fail
      refine (szIntS_any _ _ _ _ _ HS.out.2.2.2.1 (by omega) (by omega)).mono ?_
      rintro r w3 ⟨l3, rfl, g5, g6, hb3⟩
      have H3 : Hid (Below w.heap.size w w3) := below_next' H2.out.2 hb3
      clear H2 hb3 c3 z3
      by_cases q3 : l3 < 0
      · go_wp2
        go_ret
        exact ⟨-1, rfl, by omega, fun h => absurd h (by omega), H3.out⟩
      · have HO : Hid (StOk V) := ⟨g2 (by omega), g4 (by omega), g6 (by omega)⟩
        clear g2 g4 g6
        go_wp2
        go_ret
        exact ⟨l3, rfl, by omega, fun _ => HO.out, H3.out⟩

set_option maxHeartbeats 1000000 in
theorem eqStore_same (A A' : StA) (V : StV) (w : World) (hz : StOk V) (hs : StAt w A V) (hs' : StAt w A' V) :
    Calls Tryz.prog 11 #[.agg #[.int .i64 V.ep, .slice A.ra V.rn A.rc, .slice A.ta V.tn A.tc, .slice A.oa V.on A.oc], .agg #[.int .i64 V.ep, .slice A'.ra V.rn A'.rc, .slice A'.ta V.tn A'.tc, .slice A'.oa V.on A'.oc]] w fun r w' => r = .returned (.bool true) ∧ Below w.heap.size w w' := by
  have HS : Hid ((StAt w A V ∧ StAt w A' V) ∧ StOk V) := ⟨⟨hs, hs'⟩, hz⟩
  clear hs hs' hz
  have b0 := (Bx.new w [.int .i64 V.ep, .slice A.ra V.rn A.rc, .slice A.ta V.tn A.tc, .slice A.oa V.on A.oc] 34).alloc (.cells #[.int .i64 V.ep, .slice A'.ra V.rn A'.rc, .slice A'.ta V.tn A'.tc, .slice A'.oa V.on A'.oc] 34)
  have b1 := Bx.new (w.alloc (.cells #[.int .i64 V.ep, .slice A.ra V.rn A.rc, .slice A.ta V.tn A.tc, .slice A.oa V.on A.oc] 34)) [.int .i64 V.ep, .slice A'.ra V.rn A'.rc, .slice A'.ta V.tn A'.tc, .slice A'.oa V.on A'.oc] 34
  rw [World.size_alloc] at b1
  have hb0 : Below w.heap.size w ((w.alloc (.cells #[.int .i64 V.ep, .slice A.ra V.rn A.rc, .slice A.ta V.tn A.tc, .slice A.oa V.on A.oc] 34)).alloc (.cells #[.int .i64 V.ep, .slice A'.ra V.rn A'.rc, .slice A'.ta V.tn A'.tc, .slice A'.oa V.on A'.oc] 34)) := ((Below.refl _ _).alloc (Nat.le_refl _) _).alloc (by simp) _
  have H0 : Hid (Bx ((w.alloc (.cells #[.int .i64 V.ep, .slice A.ra V.rn A.rc, .slice A.ta V.tn A.tc, .slice A.oa V.on A.oc] 34)).alloc (.cells #[.int .i64 V.ep, .slice A'.ra V.rn A'.rc, .slice A'.ta V.tn A'.tc, .slice A'.oa V.on A'.oc] 34)) w.heap.size [.int .i64 V.ep, .slice A.ra V.rn A.rc, .slice A.ta V.tn A.tc, .slice A.oa V.on A.oc] ∧ Bx ((w.alloc (.cells #[.int .i64 V.ep, .slice A.ra V.rn A.rc, .slice A.ta V.tn A.tc, .slice A.oa V.on A.oc] 34)).alloc (.cells #[.int .i64 V.ep, .slice A'.ra V.rn A'.rc, .slice A'.ta V.tn A'.tc, .slice A'.oa V.on A'.oc] 34)) (w.heap.size + 1) [.int .i64 V.ep, .slice A'.ra V.rn A'.rc, .slice A'.ta V.tn A'.tc, .slice A'.oa V.on A'.oc] ∧ Below w.heap.size w ((w.alloc (.cells #[.int .i64 V.ep, .slice A.ra V.rn A.rc, .slice A.ta V.tn A.tc, .slice A.oa V.on A.oc] 34)).alloc (.cells #[.int .i64 V.ep, .slice A'.ra V.rn A'.rc, .slice A'.ta V.tn A'.tc, .slice A'.oa V.on A'.oc] 34))) := ⟨b0, b1, hb0⟩
  clear b0 b1 hb0
  go_enter Tryz.func11, Tryz.ntmps11
  go_wp2_with fail
  refine (eqRecordS_same _ _ _ _ _ V.R _ HS.out.2.1 (kept' HS.out.1.1.1 H0.out.2.2) (kept' HS.out.1.2.1 H0.out.2.2)).mono ?_
  rintro r w1 ⟨rfl, hb1⟩
  have H1 : Hid (Bx w1 w.heap.size [.int .i64 V.ep, .slice A.ra V.rn A.rc, .slice A.ta V.tn A.tc, .slice A.oa V.on A.oc] ∧ Bx w1 (w.heap.size + 1) [.int .i64 V.ep, .slice A'.ra V.rn A'.rc, .slice A'.ta V.tn A'.tc, .slice A'.oa V.on A'.oc] ∧ Below w.heap.size w w1) := ⟨H0.out.1.next hb1, H0.out.2.1.next hb1, below_next' H0.out.2.2 hb1⟩
  clear hb1 H0
  have c0 := H1.out.1.cell 2 rfl
  have c1 := H1.out.2.1.cell 2 rfl
  have z0 := H1.out.1.2
  have z1 := H1.out.2.1.2
  go_wp2_with fail
  refine (eqRunningS_same _ _ _ _ _ V.T A.U A'.U _ HS.out.2.2.1.1 HS.out.2.2.1.2 (HS.out.1.1.next H1.out.2.2).2.1 (HS.out.1.2.next H1.out.2.2).2.1).mono ?_
  rintro r w2 ⟨rfl, hb2⟩
  have H2 : Hid (Bx w2 w.heap.size [.int .i64 V.ep, .slice A.ra V.rn A.rc, .slice A.ta V.tn A.tc, .slice A.oa V.on A.oc] ∧ Bx w2 (w.heap.size + 1) [.int .i64 V.ep, .slice A'.ra V.rn A'.rc, .slice A'.ta V.tn A'.tc, .slice A'.oa V.on A'.oc] ∧ Below w.heap.size w w2) := ⟨H1.out.1.next hb2, H1.out.2.1.next hb2, below_next' H1.out.2.2 hb2⟩
  clear hb2 H1 c0 c1 z0 z1
  have c0 := H2.out.1.cell 3 rfl
  have c1 := H2.out.2.1.cell 3 rfl
  have z0 := H2.out.1.2
  have z1 := H2.out.2.1.2
  go_wp2_with fail
  refine (eqIntS_same _ _ _ _ _ V.O _ HS.out.2.2.2 (kept' HS.out.1.1.2.2.1 H2.out.2.2) (kept' HS.out.1.2.2.2.1 H2.out.2.2)).mono ?_
  rintro r w3 ⟨rfl, hb3⟩
  have H3 : Hid (Below w.heap.size w w3) := below_next' H2.out.2.2 hb3
  clear hb3 H2 c0 c1 z0 z1
  go_wp2
  go_ret
  exact ⟨rfl, H3.out⟩
end Go.Proofs.YtenfaofhoheleaaGreat
