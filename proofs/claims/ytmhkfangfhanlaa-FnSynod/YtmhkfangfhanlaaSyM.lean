/- Synods: sizes and marks of what is answered; contracts as the laws want them. -/
import Derived.Test.YtmhkfangfhanlaaShC
import Derived.Test.YtmhkfangfhanlaaSyN
namespace Go.Proofs.Ytmhkfangfhanlaa
open Go.RowKit
set_option linter.unusedVariables false

theorem small_syn : Small shSynod := ⟨⟨by decide, trivial, trivial, trivial, trivial⟩, ⟨by decide, trivial, ⟨by decide, trivial, trivial, trivial, trivial⟩, trivial, trivial, ⟨by decide, trivial⟩, trivial⟩, trivial⟩
theorem cnt_syn {ac : List (Sh.T shAcceptor)} {ps : List (Sh.T shProposer)} (h : szD shSynod (ac, ps, ()) ≤ 1073741824) : cntT shSynod (ac, ps, ()) ≤ 100000000000 := by
  have h1 := cntT_le shSynod (ac, ps, ())
  have h2 := cnt_le shSynod (ac, ps, ()) small_syn
  have h3 : shSynod.c = 2 := rfl
  omega
theorem cnt_strs {l : List (Sh.T .str)} (h : szD (.list .str) l ≤ 1073741824) : cntD (.list .str) l ≤ 100000000000 := by
  have h2 := cnt_le (.list .str) l ⟨by decide, trivial⟩
  have h3 : Sh.c (.list .str) = 1 := rfl
  omega
theorem sz_nw {m : Int} {vs : List (Sh.T .str)} (h : szD (.list .str) vs ≤ 1048576) : szD shSynod (nwAc m vs, nwPs m vs, ()) ≤ 1073741824 := by
  by_cases hp : nwP m vs
  · obtain ⟨e1, e2, _⟩ := nw_some hp
    rw [e1, e2]
    have e : szD shSynod (List.replicate m.toNat z0A, List.map mkPr vs, ()) = szD (.list shAcceptor) (List.replicate m.toNat z0A) + (szD (.list shProposer) (List.map mkPr vs) + 0) := rfl
    have a1 : ∀ n, szD (.list shAcceptor) (List.replicate n z0A) = n := by
      intro n
      induction n with
      | zero => rfl
      | succ n ih =>
        have h1 : szD (.list shAcceptor) (z0A :: List.replicate n z0A) = (List.replicate n z0A).length + 1 + (0 + ((List.replicate n z0A).map (szD shAcceptor)).sum) := rfl
        have h2 : szD (.list shAcceptor) (List.replicate n z0A) = (List.replicate n z0A).length + ((List.replicate n z0A).map (szD shAcceptor)).sum := rfl
        rw [List.replicate_succ, h1]
        omega
    have a2 : ∀ l : List (Sh.T .str), szD (.list shProposer) (List.map mkPr l) = szD (.list .str) l := by
      intro l
      induction l with
      | nil => rfl
      | cons v t ih =>
        have h1 : szD (.list shProposer) (mkPr v :: List.map mkPr t) = (List.map mkPr t).length + 1 + (szD shProposer (mkPr v) + ((List.map mkPr t).map (szD shProposer)).sum) := rfl
        have h2 : szD (.list shProposer) (List.map mkPr t) = (List.map mkPr t).length + ((List.map mkPr t).map (szD shProposer)).sum := rfl
        have h3 : szD (.list .str) (v :: t) = t.length + 1 + (v.size + (t.map (szD .str)).sum) := rfl
        have h4 : szD (.list .str) t = t.length + (t.map (szD .str)).sum := rfl
        have h5 : szD shProposer (mkPr v) = v.size := rfl
        rw [List.map_cons, h1, h3]
        rw [List.length_map] at h1 h2 ⊢
        omega
    have := hp.1
    rw [e, a1, a2]
    omega
  · obtain ⟨e1, e2, _⟩ := nw_none hp
    rw [e1, e2]
    exact Nat.zero_le _
theorem newSynod_l (m : Int) (a : Option Addr) (cap : Nat) (vs : List (Sh.T .str)) (w : World) (AC : List (Sh.T shAcceptor)) (PS : List (Sh.T shProposer)) (z : Bool) (hA : nwAc m vs = AC ∧ nwPs m vs = PS ∧ tf (nwP m vs) = z) (hz : szD (.list .str) vs ≤ 1073741824) (h : Lies w (.list .str) [.slice a vs.length cap] vs) :
    Calls Try.prog 25 #[.int .i64 m, .slice a vs.length cap] w (AnsP shSynod (AC, PS, ()) z w) := by
  rw [← hA.1, ← hA.2.1, ← hA.2.2]; exact newSynod_n m a cap vs w hz h
theorem specNewSynod_l (m : Int) (a : Option Addr) (cap : Nat) (vs : List (Sh.T .str)) (w : World) (AC : List (Sh.T shAcceptor)) (PS : List (Sh.T shProposer)) (z : Bool) (hA : nwAc m vs = AC ∧ nwPs m vs = PS ∧ tf (nwP m vs) = z) (hz : szD (.list .str) vs ≤ 1073741824) (h : Lies w (.list .str) [.slice a vs.length cap] vs) :
    Calls Try.prog 23 #[.int .i64 m, .slice a vs.length cap] w (AnsP shSynod (AC, PS, ()) z w) := by
  rw [← hA.1, ← hA.2.1, ← hA.2.2]; exact specNewSynod_n m a cap vs w hz h
end Go.Proofs.Ytmhkfangfhanlaa
