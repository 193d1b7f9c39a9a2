/- Put together of: CpJ, CpK. -/
import Derived.Test.YtkpobihpcnoemaaDoorGaI
import Derived.Defers
import Derived.Recover
import Derived.Laws.Pointers
import Derived.Test.YtkpobihpcnoemaaDoorCpI
/- Commits: what catches a fault: the deferred closure of tryCommitStep, in a frame that panics and in one that returns. -/
namespace Go.Proofs.YtkpobihpcnoemaaDoor
open Go.RowKit
set_option linter.unusedVariables false
set_option linter.unusedSimpArgs false

set_option maxRecDepth 100000 in
set_option maxHeartbeats 800000 in
theorem catch_panicking (p : Addr) (x : Bool) (u : TypeId) (pv : Value) (older : List PanicEntry) (w : World) (hc : w.cell? p = some (.bool x)) (hz : w.frozen? p = false) :
    CallsD Tryd.prog 68 #[.pointer (some p)] (.panicking ({ v := .iface u pv, recovered := false } :: older)) w fun e u' w' =>
      e = .returned (.tuple #[]) ∧ u' = .panicking ({ v := .iface u pv, recovered := true } :: older) ∧ w' = w.setCell p (.bool false) := by
  refine callsD_of_wpS Tryd.func68 rfl fun c₀ cs hu => ?_
  apply wpS_region
  simp [wpOpsS, go_sem, recoverD, hu, Tryd.ntmps68, Exit.thenS, hc, hz]
  exact ⟨rfl, _, rfl, .tuple #[], by simp [results, Tryd.results68], rfl, rfl, rfl⟩

set_option maxRecDepth 100000 in
set_option maxHeartbeats 800000 in
theorem catch_idle (p : Addr) (x : Bool) (w : World) (hc : w.cell? p = some (.bool x)) (hz : w.frozen? p = false) :
    CallsD Tryd.prog 68 #[.pointer (some p)] .returning w fun e u' w' => e = .returned (.tuple #[]) ∧ u' = .returning ∧ w' = w.setCell p (.bool true) := by
  refine callsD_of_wpS Tryd.func68 rfl fun c₀ cs hu => ?_
  apply wpS_region
  simp [wpOpsS, go_sem, recoverD, hu, Tryd.ntmps68, Exit.thenS, hc, hz]
  exact ⟨rfl, .returning, by rw [← hu], .tuple #[], by simp [results, Tryd.results68], rfl, rfl, rfl⟩
end Go.Proofs.YtkpobihpcnoemaaDoor
/- Commits: tryCommitStep. Written by tools/mkCpD.py. -/
namespace Go.Proofs.YtkpobihpcnoemaaDoor
open Go.RowKit
set_option linter.unusedVariables false
set_option linter.unusedSimpArgs false

theorem CmX.other {W : World} {b lo up B : Nat} {v : Value} {ss : List Shd} {dr rc : Int} (h : CmX W b lo up v ss dr rc) (hb : lo ≤ b) (hu : up ≤ B ∧ b ≠ B + 1) (u : Value) : CmX (W.setCell ⟨B + 1, 0, none⟩ u) b lo up v ss dr rc := by
  obtain ⟨h1, S, h2, h3⟩ := h
  exact ⟨⟨h1.1.other hu.2, by rw [World.size_setCell]; exact h1.2⟩, S, h2.set (p := ⟨B + 1, 0, none⟩) (fun q => by have := (h3 _ q).2.1; simp at this; omega) _, h3⟩
/-- Whether a step was done, nothing being given up. -/
def TrP (lo up b : Nat) (v : Value) (E : Option Cmt) (w : World) (r : Ending) (w' : World) : Prop := r = .returned (.bool E.isSome) ∧ (∀ x, E = some x → CmX w' b lo up v x.1 x.2.1 x.2.2) ∧ TurnS (fun k => Btw lo up k ∨ k = w.heap.size + 1) w w'

set_option maxRecDepth 100000 in
set_option maxHeartbeats 4000000 in
theorem tryCommitStep_n (b lo up : Nat) (v : Value) (ss : List Shd) (dr rc k i j : Int) (w : World) (hn : ss.length ≤ 1000) (hr : ∀ s ∈ ss, (srs s).length ≤ 1000) (hlo : 0 < lo ∧ lo ≤ b ∧ b < up) (hf : Flt w) (hgd : inR dr 0 2 = true ∧ inR rc 0 2 = true) (hx : CmX w b lo up v ss dr rc) :
    Calls Tryd.prog 48 #[.pointer (some ⟨b, 0, none⟩), .agg #[.int .i64 k, .int .i64 i, .int .i64 j]] w (TrP lo up b v (stC ss dr rc k i j) w) := by
  have hmf : ∀ (fn : Fn) (first cap : Array Value) (w : World), (Instr.makeFunc fn first cap).run Tryd.prog w = .ok (.func fn first cap) w := fun _ _ _ _ => rfl
  obtain ⟨E, hE⟩ : ∃ E, stC ss dr rc k i j = E := ⟨_, rfl⟩
  have HE := Hid.intro hE
  rw [hE]
  clear hE
  obtain ⟨w0, hw0⟩ : ∃ x, x = (w.alloc (.cells #[.int .i64 k, .int .i64 i, .int .i64 j] 48)).alloc (.cells #[.bool false] 4) := ⟨_, rfl⟩
  have hb0 : Below w.heap.size w w0 := hw0 ▸ ((Below.refl _ _).alloc (Nat.le_refl _) _).alloc (by simp) _
  have HUP : Hid (up ≤ w.heap.size ∧ b ≠ w.heap.size + 1) := ⟨hx.1.2, by have := hx.1.1.2; omega⟩
  have hlw : lo ≤ w.heap.size := Nat.le_of_lt (Nat.lt_of_le_of_lt hlo.2.1 hx.1.1.2)
  have HC : Hid (CmX w0 b lo up v ss dr rc ∧ Bx w0 w.heap.size [.int .i64 k, .int .i64 i, .int .i64 j] ∧ Bx w0 (w.heap.size + 1) [.bool false] ∧ TurnS (Btw lo up) w w0 ∧ Flt w0) := ⟨hx.next hb0, hw0 ▸ (Bx.new w [_, _, _] _).alloc _, hw0 ▸ Bx.newAt (by simp), TurnS.of_below hb0, hf.next hb0 hf.lt⟩
  have HR := Hid.intro hr
  have HLO : Hid ((0 < lo ∧ lo ≤ b ∧ b < up) ∧ lo ≤ w.heap.size) := ⟨hlo, hlw⟩
  have HGD := Hid.intro hgd
  clear hb0 hx hf hr hlo hlw hgd
  go_enter_defers Tryd.func48, Tryd.ntmps48
  go_upto_region 1 with fail
  rw [← hw0]
  clear hw0
  have s0 := (HC.out.2.1).cell 0 rfl; have s1 := (HC.out.2.1).cell 1 rfl; have s2 := (HC.out.2.1).cell 2 rfl; have sz := (HC.out.2.1).2
  cases E with
  | none =>
    go_wp2_with (go_at_call 69; refine (takeCommitStep_n b lo up _ ss dr rc k i j _ hn HR.out HLO.out.1 HC.out.2.2.2.2 HGD.out HC.out.1).mono ?_; rintro r w2 ⟨_, hno, ht⟩; obtain ⟨p, rfl⟩ := hno HE.out; have HT := Hid.intro ht; clear hno ht)
    have HD : Hid (Bx w2 (w.heap.size + 1) [.bool false]) := Hid.intro (HC.out.2.2.1.turnS HT.out (fun q => by have := q.2; have := HUP.out.1; omega))
    refine leaves_cons (f := 68) (args := #[.pointer (some ⟨w.heap.size + 1, 0, none⟩)]) (by simp) (by simp [go_sem]) ?_
    refine (catch_panicking ⟨w.heap.size + 1, 0, none⟩ false _ _ [] _ (HD.out.cell 0 rfl) (HD.out.frz 0 (by simp))).mono ?_
    rintro e u' w3 ⟨rfl, rfl, rfl⟩
    have HX : Hid (TrP lo up b v none w (.returned (.bool false)) (w2.setCell ⟨w.heap.size + 1, 0, none⟩ (.bool false))) := Hid.intro ⟨rfl, fun x q => (by cases q), ((HC.out.2.2.2.1.trans HT.out).wide (S' := fun k => Btw lo up k ∨ k = w.heap.size + 1) (fun k q => Or.inl q)).set (p := ⟨w.heap.size + 1, 0, none⟩) (Or.inr rfl) _⟩
    have hcell : (w2.setCell ⟨w.heap.size + 1, 0, none⟩ (.bool false)).cell? ⟨w.heap.size + 1, 0, none⟩ = some (.bool false) := (HD.out.set (k := 0) (by simp) (.bool false)).cell 0 rfl
    simp [Leaves, settle, results, Tryd.results48, go_sem, hcell]
    exact HX.out
  | some x =>
    obtain ⟨s', d', r'⟩ := x
    go_wp2_with (go_at_call 69; refine (takeCommitStep_n b lo up _ ss dr rc k i j _ hn HR.out HLO.out.1 HC.out.2.2.2.2 HGD.out HC.out.1).mono ?_; rintro r w2 ⟨hyes, _, ht⟩; obtain ⟨rfl, hc⟩ := hyes _ HE.out; have HT := Hid.intro ht; have HX := Hid.intro hc; have HD : Hid (Bx w2 (w.heap.size + 1) [.bool false]) := Hid.intro (HC.out.2.2.1.turnS HT.out (fun q => by have := q.2; have := HUP.out.1; omega)); have t0 := HD.out.cell 0 rfl; have tf := HD.out.frz 0 (by simp); have tz := HD.out.2; clear hyes ht hc)
    clear t0 tf tz
    have HD2 : Hid (Bx (w2.setCell ⟨w.heap.size + 1, 0, none⟩ (.bool true)) (w.heap.size + 1) [.bool true]) := Hid.intro (HD.out.set (k := 0) (by simp) (.bool true))
    refine leaves_cons (f := 68) (args := #[.pointer (some ⟨w.heap.size + 1, 0, none⟩)]) (by simp) (by simp [go_sem]) ?_
    refine (catch_idle ⟨w.heap.size + 1, 0, none⟩ true _ (HD2.out.cell 0 rfl) (HD2.out.frz 0 (by simp))).mono ?_
    rintro e u' w3 ⟨rfl, rfl, rfl⟩
    have HZ : Hid (TrP lo up b v (some (s', d', r')) w (.returned (.bool true)) ((w2.setCell ⟨w.heap.size + 1, 0, none⟩ (.bool true)).setCell ⟨w.heap.size + 1, 0, none⟩ (.bool true))) := Hid.intro ⟨rfl, fun x q => (by cases q; exact (HX.out.other HLO.out.1.2.1 HUP.out _).other HLO.out.1.2.1 HUP.out _), (((HC.out.2.2.2.1.trans HT.out).wide (S' := fun k => Btw lo up k ∨ k = w.heap.size + 1) (fun k q => Or.inl q)).set (p := ⟨w.heap.size + 1, 0, none⟩) (Or.inr rfl) _).set (p := ⟨w.heap.size + 1, 0, none⟩) (Or.inr rfl) _⟩
    have hcell : ((w2.setCell ⟨w.heap.size + 1, 0, none⟩ (.bool true)).setCell ⟨w.heap.size + 1, 0, none⟩ (.bool true)).cell? ⟨w.heap.size + 1, 0, none⟩ = some (.bool true) := (HD2.out.set (k := 0) (by simp) (.bool true)).cell 0 rfl
    simp [Leaves, settle, results, Tryd.results48, go_sem, hcell]
    exact HZ.out

end Go.Proofs.YtkpobihpcnoemaaDoor
