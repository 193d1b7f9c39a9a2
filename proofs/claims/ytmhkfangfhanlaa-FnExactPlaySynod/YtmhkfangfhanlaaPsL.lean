/- Synods: both sides of PlaySynod as its law speaks of them. -/
import Derived.Test.YtmhkfangfhanlaaPsS
namespace Go.Proofs.Ytmhkfangfhanlaa
open Go.RowKit
set_option linter.unusedVariables false
set_option linter.unusedSimpArgs false

theorem cnt_bools {l : List (Sh.T .bool)} (h : szD (.list .bool) l ≤ 1073741824) : cntD (.list .bool) l ≤ 100000000000 := by
  have h2 := cnt_le (.list .bool) l ⟨by decide, trivial⟩
  have h3 : Sh.c (.list .bool) = 1 := rfl
  omega
theorem cnt_steps {l : List (Sh.T shSynodStep)} (h : szD (.list shSynodStep) l ≤ 1073741824) : cntD (.list shSynodStep) l ≤ 100000000000 := by
  have h2 := cnt_le (.list shSynodStep) l ⟨by decide, trivial, trivial, trivial, trivial⟩
  have h3 : Sh.c (.list shSynodStep) = 1 := rfl
  omega
theorem sz_bools {l : List (Sh.T .bool)} (h : l.length ≤ 1000) : szD (.list .bool) l ≤ 1073741824 := by
  have e : szD (.list .bool) l = l.length + (l.map (szD .bool)).sum := rfl
  have := sum_le (e := .bool) (B := 0) (l := l) (fun x _ => Nat.le_refl 0)
  omega
theorem len_steps {l : List (Sh.T shSynodStep)} (h : szD (.list shSynodStep) l ≤ 1073741824) : l.length ≤ 1073741824 := by
  have e : szD (.list shSynodStep) l = l.length + (l.map (szD shSynodStep)).sum := rfl
  omega
theorem sz_plA (m : Int) (vs : List (Sh.T .str)) (l : List (Sh.T shSynodStep)) : szD shSynod ((plA m vs l).1.1, (plA m vs l).1.2, ()) ≤ 1073741824 ∧ szD (.list .bool) (plA m vs l).2 ≤ 1073741824 := by
  by_cases h : plOk m vs l
  · rw [(pl_yes h).1]
    have h1 := pl_good (s := pl0 m vs) (l := l) (good_new h.1) (Nat.le_refl l.length)
    have h2 := pl_len (s := pl0 m vs) (l := l) (Nat.le_refl l.length)
    rw [List.take_length] at h1 h2
    have h3 := good_size h1
    exact ⟨Nat.le_trans h3 (by decide), sz_bools (by have := h.2; omega)⟩
  · rw [(pl_no h).1]
    exact ⟨by show 0 + 0 + (0 + 0 + 0) ≤ _; omega, sz_bools (by simp)⟩
def PlH (m : Int) (vs : List (Sh.T .str)) (l : List (Sh.T shSynodStep)) (AC : List (Sh.T shAcceptor)) (PS : List (Sh.T shProposer)) (D : List (Sh.T .bool)) (z : Bool) : Prop := (plA m vs l).1.1 = AC ∧ (plA m vs l).1.2 = PS ∧ (plA m vs l).2 = D ∧ tf (plOk m vs l) = z
theorem playSynod_l (m : Int) (a1 : Option Addr) (k1 : Nat) (vs : List (Sh.T .str)) (a2 : Option Addr) (k2 : Nat) (l : List (Sh.T shSynodStep)) (w : World) (AC : List (Sh.T shAcceptor)) (PS : List (Sh.T shProposer)) (D : List (Sh.T .bool)) (z : Bool) (hA : PlH m vs l AC PS D z) (hz : szD (.list .str) vs ≤ 1073741824) (hn : szD (.list shSynodStep) l ≤ 1073741824) (h1 : Lies w (.list .str) [.slice a1 vs.length k1] vs) (h2 : Lies w (.list shSynodStep) [.slice a2 l.length k2] l) :
    Calls Try.prog 12 #[.int .i64 m, .slice a1 vs.length k1, .slice a2 l.length k2] w (PlP AC PS D z w) := by
  rw [← hA.1, ← hA.2.1, ← hA.2.2.1, ← hA.2.2.2]; exact playSynod_n m a1 k1 vs a2 k2 l w hz (len_steps hn) h1 h2
theorem specPlaySynod_l (m : Int) (a1 : Option Addr) (k1 : Nat) (vs : List (Sh.T .str)) (a2 : Option Addr) (k2 : Nat) (l : List (Sh.T shSynodStep)) (w : World) (AC : List (Sh.T shAcceptor)) (PS : List (Sh.T shProposer)) (D : List (Sh.T .bool)) (z : Bool) (hA : PlH m vs l AC PS D z) (hz : szD (.list .str) vs ≤ 1073741824) (hn : szD (.list shSynodStep) l ≤ 1073741824) (h1 : Lies w (.list .str) [.slice a1 vs.length k1] vs) (h2 : Lies w (.list shSynodStep) [.slice a2 l.length k2] l) :
    Calls Try.prog 13 #[.int .i64 m, .slice a1 vs.length k1, .slice a2 l.length k2] w (PlP AC PS D z w) := by
  rw [← hA.1, ← hA.2.1, ← hA.2.2.1, ← hA.2.2.2]; exact specPlaySynod_n m a1 k1 vs a2 k2 l w hz (len_steps hn) h1 h2
theorem plp_out {AC : List (Sh.T shAcceptor)} {PS : List (Sh.T shProposer)} {D : List (Sh.T .bool)} {z : Bool} {W W' : World} {r : Ending} (h : PlP AC PS D z W r W') : ∃ (a3 : Option Addr) (k3 : Nat) (a4 : Option Addr) (k4 : Nat) (a5 : Option Addr) (k5 : Nat) (S1 S2 : Nat → Prop), r = .returned (.tuple #[.agg #[.slice a3 AC.length k3, .slice a4 PS.length k4], .slice a5 D.length k5, .bool z]) ∧ Own W' shSynod [.slice a3 AC.length k3, .slice a4 PS.length k4] (AC, PS, ()) S1 ∧ Own W' (.list .bool) [.slice a5 D.length k5] D S2 ∧ ((∀ k, S1 k → W.heap.size ≤ k ∧ k < W'.heap.size) ∧ (∀ k, S2 k → W.heap.size ≤ k ∧ k < W'.heap.size) ∧ (∀ k, S1 k → ¬ S2 k)) ∧ Below W.heap.size W W' := by
  obtain ⟨c0, c1, v, S1, S2, rfl, ho, hod, hs1, hs2, hb⟩ := h
  obtain ⟨a3, k3, _, a4, k4, _, hev, _⟩ := own_Synod ho
  simp only [List.cons.injEq, and_true] at hev
  obtain ⟨rfl, rfl⟩ := hev
  obtain ⟨a5, k5, e5, _⟩ := hod.lies
  simp only [List.cons.injEq, and_true] at e5
  subst e5
  exact ⟨a3, k3, a4, k4, a5, k5, S1, S2, rfl, ho, hod, ⟨fun k hk => (hs1 k hk).1, hs2, fun k hk => (hs1 k hk).2⟩, hb⟩
end Go.Proofs.Ytmhkfangfhanlaa
