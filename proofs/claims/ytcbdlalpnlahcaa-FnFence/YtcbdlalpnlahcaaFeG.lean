/- Fences: what is good, said plainly. No Go text is spoken of here. -/
import Derived.Test.YtcbdlalpnlahcaaMgA
import Derived.Test.YtcbdlalpnlahcaaNtS
namespace Go.Proofs.Ytcbdlalpnlahcaa
open Go.RowKit
set_option linter.unusedVariables false
set_option linter.unusedSimpArgs false

def mid (m : Sh.T shMember) : Int := m.1
def mep (m : Sh.T shMember) : Int := m.2.1
def mru (m : Sh.T shMember) : List (Sh.T .int) := m.2.2.1
def mac (m : Sh.T shMember) : Int := m.2.2.2.1
/-- Running are above what was acked, none falling. -/
def runP (ac ep : Int) (l : List (Sh.T .int)) (k : Nat) : Prop := ∀ j, j < k → (ac + 1 ≤ atI l j ∧ atI l j ≤ ep) ∧ (0 < j → atI l (j - 1) ≤ atI l j)
def memP (ep du : Int) (m : Sh.T shMember) : Prop := (0 ≤ mid m ∧ mid m ≤ 99) ∧ (du + 1 ≤ mep m ∧ mep m ≤ ep) ∧ (mru m).length ≤ 20 ∧ (du ≤ mac m ∧ mac m ≤ ep - 1) ∧ runP (mac m) (mep m) (mru m) (mru m).length ∧ mac m < mep m
/-- How many run, in the first k members. -/
def runN (ms : List (Sh.T shMember)) (k : Nat) : Nat := ((ms.take k).map (fun m => (mru m).length)).sum
def memsP (ep du : Int) (ms : List (Sh.T shMember)) (k : Nat) : Prop := ∀ i (h : i < ms.length), i < k → memP ep du ms[i] ∧ (∀ h0 : 0 < i, mid (ms[i - 1]'(by omega)) < mid ms[i])
def endP (ep : Int) (en : List (Sh.T .int)) (k : Nat) : Prop := ∀ j, j < k → 1 ≤ atI en j ∧ atI en j ≤ ep
def goodF (ep du : Int) (ms : List (Sh.T shMember)) (en : List (Sh.T .int)) : Prop :=
  (1 ≤ ep ∧ ep ≤ 1000) ∧ (0 ≤ du ∧ du ≤ ep - 1) ∧ (1 ≤ (ms.length : Int) ∧ (ms.length : Int) ≤ 8) ∧ en.length + runN ms ms.length ≤ 200 ∧ memsP ep du ms ms.length ∧ endP ep en en.length
theorem runN_succ {ms : List (Sh.T shMember)} {k : Nat} (h : k < ms.length) : runN ms (k + 1) = runN ms k + (mru ms[k]).length := by
  unfold runN; rw [List.take_succ_eq_append_getElem h, List.map_append, List.sum_append]; simp
theorem runN_mono {ms : List (Sh.T shMember)} : ∀ {k : Nat}, k ≤ ms.length → runN ms k ≤ runN ms ms.length := by
  intro k hk
  unfold runN
  have e : ms.take ms.length = ms.take k ++ ms.drop k := by rw [List.take_length, List.take_append_drop]
  rw [e, List.map_append, List.sum_append]; omega
theorem runN_sz : ∀ (ms : List (Sh.T shMember)), runN ms ms.length ≤ (ms.map (szD shMember)).sum
  | [] => Nat.le_refl _
  | m :: t => by
    have ih := runN_sz t
    unfold runN at ih ⊢
    rw [List.take_length] at ih ⊢
    rw [List.map_cons, List.sum_cons, List.map_cons, List.sum_cons]
    have e : szD shMember m = 0 + (0 + ((m.2.2.1.length + (m.2.2.1.map (szD .int)).sum) + (0 + 0))) := rfl
    have : (mru m).length = m.2.2.1.length := rfl
    omega
theorem fe_sizes {ep du : Int} {ms : List (Sh.T shMember)} {en : List (Sh.T .int)} {N : Nat} (h : szD shFence (ep, du, ms, en, ()) ≤ N) : ms.length ≤ N ∧ en.length ≤ N ∧ en.length + runN ms ms.length ≤ N := by
  have h : 0 + (0 + ((ms.length + (ms.map (szD shMember)).sum) + ((en.length + (en.map (szD .int)).sum) + 0))) ≤ N := h
  have := runN_sz ms
  omega
theorem goodF_no {ep du : Int} {ms : List (Sh.T shMember)} {en : List (Sh.T .int)} (h : ¬ goodF ep du ms en) : Ending.returned (.bool false) = .returned (.bool (tf (goodF ep du ms en))) := by rw [tf_no h]
theorem goodF_yes {ep du : Int} {ms : List (Sh.T shMember)} {en : List (Sh.T .int)} (h : goodF ep du ms en) : Ending.returned (.bool true) = .returned (.bool (tf (goodF ep du ms en))) := by rw [tf_yes h]
end Go.Proofs.Ytcbdlalpnlahcaa
