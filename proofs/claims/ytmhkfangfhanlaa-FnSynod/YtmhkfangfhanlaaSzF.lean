/- Synods: sizes of what a step makes, and both sides of StepSynod as the law speaks of them. -/
import Derived.Test.YtmhkfangfhanlaaSzE
import Derived.Test.YtmhkfangfhanlaaSyM
namespace Go.Proofs.Ytmhkfangfhanlaa
open Go.RowKit
set_option linter.unusedVariables false
set_option linter.unusedSimpArgs false

theorem sum_le {e : Sh} {B : Nat} : ∀ {l : List e.T}, (∀ x ∈ l, szD e x ≤ B) → (l.map (szD e)).sum ≤ l.length * B
  | [], _ => by simp
  | x :: t, h => by
    have h1 := sum_le (l := t) (fun y hy => h y (List.mem_cons_of_mem _ hy))
    have h2 := h x (List.mem_cons_self ..)
    rw [List.map_cons, List.sum_cons, List.length_cons, Nat.add_mul]
    omega
theorem sz_ints {l : List (Sh.T .int)} (h : l.length ≤ 100) : szD (.list .int) l ≤ 100 := by
  have e : szD (.list .int) l = l.length + (l.map (szD .int)).sum := rfl
  have := sum_le (e := .int) (B := 0) (l := l) (fun x _ => Nat.le_refl 0)
  omega
theorem sz_pro {q : Sh.T shProposer} (h1 : q.1.size ≤ 20) (h2 : szD (.list shPromise) q.2.1 ≤ 1000) (h3 : q.2.2.2.1.size ≤ 20) (h4 : q.2.2.2.2.1.length ≤ 100) : szD shProposer q ≤ 2000 := by
  have e : szD shProposer q = q.1.size + (szD (.list shPromise) q.2.1 + (0 + (q.2.2.2.1.size + (szD (.list .int) q.2.2.2.2.1 + 0)))) := rfl
  have := sz_ints h4
  omega
theorem good_sz {ac : List (Sh.T shAcceptor)} {pr : List (Sh.T shProposer)} (hg : goodS ac pr) : (∀ a ∈ ac, szD shAcceptor a ≤ 20) ∧ ∀ q ∈ pr, szD shProposer q ≤ 2000 := by
  refine ⟨fun a ha => ?_, fun q hq => ?_⟩
  · have := valOk_size (hg.2.2.1 a ha).2.2.1
    have e : szD shAcceptor a = 0 + (0 + (a.2.2.1.size + 0)) := rfl
    omega
  · obtain ⟨k, hk, rfl⟩ := List.getElem_of_mem hq
    obtain ⟨i, hi⟩ : ∃ i, i < ac.length := ⟨0, hg.1.1⟩
    have h := good_small hg hi hk rfl rfl
    exact sz_pro h.2.2.2.2.1 (pms_small (Nat.le_trans h.2.1 (by decide)) h.2.2.2.1) h.2.2.2.2.2.1 (Nat.le_trans h.2.2.2.2.2.2.1 (by decide))
theorem st_small {ac : List (Sh.T shAcceptor)} {pr : List (Sh.T shProposer)} {acc : Bool} {bal node : Int} {x : List (Sh.T shAcceptor) × List (Sh.T shProposer)} (hg : goodS ac pr) (h : stB ac pr acc bal node = some x) : szD shSynod (x.1, x.2, ()) ≤ 100000 := by
  by_cases hI : stI ac pr bal node
  case neg => rw [stB_no hI] at h; cases h
  obtain ⟨k, rfl⟩ : ∃ k : Nat, bal = (k : Int) + 1 := ⟨(bal - 1).toNat, by have := hI.1; omega⟩
  obtain ⟨i, rfl⟩ : ∃ i : Nat, node = (i : Int) := ⟨node.toNat, by have := hI.2; omega⟩
  have hk : k < pr.length := by have := hI.1; omega
  have hi : i < ac.length := by have := hI.2; omega
  obtain ⟨p, b, v, hA⟩ : ∃ (p b : Int) (v : ByteArray), ac[i] = (p, b, v, ()) := ⟨_, _, _, rfl⟩
  obtain ⟨own, pms, fx, val, vt, hP⟩ : ∃ (own : ByteArray) (pms : List (Sh.T shPromise)) (fx : Bool) (val : ByteArray) (vt : List (Sh.T .int)), pr[k] = (own, pms, fx, val, vt, ()) := ⟨_, _, _, _, _, rfl⟩
  rw [stB_at hi hk hA hP] at h
  have hs := good_small hg hi hk hA hP
  obtain ⟨y, hy, rfl⟩ := Option.map_eq_some_iff.1 h
  have hy2 : szD shAcceptor y.1 ≤ 20 ∧ szD shProposer y.2 ≤ 2000 := by
    unfold stE at hy
    split at hy
    · split at hy
      · cases hy
        refine ⟨?_, sz_pro hs.2.2.2.2.1 (pms_small (Nat.le_trans hs.2.1 (by decide)) hs.2.2.2.1) hs.2.2.2.2.2.1 ?_⟩
        · show 0 + (0 + (val.size + 0)) ≤ 20
          have := hs.2.2.2.2.2.1; omega
        · show (insI vt (i : Int)).length ≤ 100
          rw [insI_len]; have := hs.2.2.2.2.2.2.1; omega
      · cases hy
    · split at hy
      · cases hy
        have hl : (putP pms (mkPm (i : Int) b v)).length ≤ 20 := by have := putP_len pms (mkPm (i : Int) b v); have := hs.2.1; omega
        have hm : ∀ z ∈ putP pms (mkPm (i : Int) b v), (pvl z).size ≤ 20 := by
          intro z hz
          rcases putP_mem hz with q | q
          · rw [q]; exact hs.1
          · exact hs.2.2.2.1 z q
        refine ⟨?_, sz_pro hs.2.2.2.2.1 (pms_small hl hm) ?_ (by have := hs.2.2.2.2.2.2.1; show vt.length ≤ 100; omega)⟩
        · show 0 + (0 + (v.size + 0)) ≤ 20
          have := hs.1; omega
        · show (if decide ((ac.length : Int) < 2 * ((putP pms (mkPm (i : Int) b v)).length : Int)) then fixV own (putP pms (mkPm (i : Int) b v)) else val).size ≤ 20
          split
          · exact fixF_size hs.2.2.2.2.1 hm
          · exact hs.2.2.2.2.2.1
      · cases hy
  have gs := good_sz hg
  have h1 : ∀ a ∈ ac.set i y.1, szD shAcceptor a ≤ 20 := fun a ha => by
    rcases List.mem_or_eq_of_mem_set ha with q | q
    · exact gs.1 a q
    · rw [q]; exact hy2.1
  have h2 : ∀ a ∈ pr.set k y.2, szD shProposer a ≤ 2000 := fun a ha => by
    rcases List.mem_or_eq_of_mem_set ha with q | q
    · exact gs.2 a q
    · rw [q]; exact hy2.2
  have e : szD shSynod (ac.set i y.1, pr.set k y.2, ()) = szD (.list shAcceptor) (ac.set i y.1) + (szD (.list shProposer) (pr.set k y.2) + 0) := rfl
  have e1 : szD (.list shAcceptor) (ac.set i y.1) = (ac.set i y.1).length + ((ac.set i y.1).map (szD shAcceptor)).sum := rfl
  have e2 : szD (.list shProposer) (pr.set k y.2) = (pr.set k y.2).length + ((pr.set k y.2).map (szD shProposer)).sum := rfl
  have s1 := sum_le h1
  have s2 := sum_le h2
  rw [List.length_set] at e1 e2 s1 s2
  have := hg.1
  have := hg.2.1
  show szD shSynod (ac.set i y.1, pr.set k y.2, ()) ≤ 100000
  omega
theorem sz_stS (ac : List (Sh.T shAcceptor)) (pr : List (Sh.T shProposer)) (acc : Bool) (bal node : Int) : szD shSynod (((stS ac pr acc bal node).getD ([], [])).1, ((stS ac pr acc bal node).getD ([], [])).2, ()) ≤ 1073741824 := by
  cases h : stS ac pr acc bal node with
  | none => show 0 + 0 + (0 + 0 + 0) ≤ _; omega
  | some x =>
    have hg : goodS ac pr := by
      by_cases q : goodS ac pr
      · exact q
      · rw [stS_no q] at h; cases h
    rw [stS_good hg] at h
    have := st_small hg h
    show szD shSynod (x.1, x.2, ()) ≤ _
    omega
theorem stepSynod_l (cs : List Value) (ac : List (Sh.T shAcceptor)) (ps : List (Sh.T shProposer)) (acc : Bool) (bal node : Int) (w : World) (AC : List (Sh.T shAcceptor)) (PS : List (Sh.T shProposer)) (z : Bool) (hA : ((stS ac ps acc bal node).getD ([], [])).1 = AC ∧ ((stS ac ps acc bal node).getD ([], [])).2 = PS ∧ (stS ac ps acc bal node).isSome = z) (hz : szD shSynod (ac, ps, ()) ≤ 1073741824) (h : Lies w shSynod cs (ac, ps, ())) :
    Calls Try.prog 35 #[.agg cs.toArray, .agg #[.bool acc, .int .i64 bal, .int .i64 node]] w (AnsP shSynod (AC, PS, ()) z w) := by
  rw [← hA.1, ← hA.2.1, ← hA.2.2]; exact stepSynod_n cs ac ps acc bal node w hz h
theorem specStepSynod_l (cs : List Value) (ac : List (Sh.T shAcceptor)) (ps : List (Sh.T shProposer)) (acc : Bool) (bal node : Int) (w : World) (AC : List (Sh.T shAcceptor)) (PS : List (Sh.T shProposer)) (z : Bool) (hA : ((stS ac ps acc bal node).getD ([], [])).1 = AC ∧ ((stS ac ps acc bal node).getD ([], [])).2 = PS ∧ (stS ac ps acc bal node).isSome = z) (hz : szD shSynod (ac, ps, ()) ≤ 1073741824) (h : Lies w shSynod cs (ac, ps, ())) :
    Calls Try.prog 33 #[.agg cs.toArray, .agg #[.bool acc, .int .i64 bal, .int .i64 node]] w (AnsP shSynod (AC, PS, ()) z w) := by
  rw [← hA.1, ← hA.2.1, ← hA.2.2]; exact specStepSynod_n cs ac ps acc bal node w hz h
/-- What a call answered, in a form that any order of what is drawn can use. -/
theorem ans_out {W W' : World} {r : Ending} {AC : List (Sh.T shAcceptor)} {PS : List (Sh.T shProposer)} {z : Bool} (h : AnsP shSynod (AC, PS, ()) z W r W') : ∃ (a3 : Option Addr) (k3 : Nat) (a4 : Option Addr) (k4 : Nat) (lo hi : Nat), r = .returned (.tuple #[.agg #[.slice a3 AC.length k3, .slice a4 PS.length k4], .bool z]) ∧ Own W' shSynod [.slice a3 AC.length k3, .slice a4 PS.length k4] (AC, PS, ()) (Btw lo hi) ∧ W.heap.size ≤ lo ∧ lo ≤ hi ∧ hi ≤ W'.heap.size ∧ Below W.heap.size W W' := by
  obtain ⟨cs, rfl, ho, hb⟩ := h
  obtain ⟨a3, k3, _, a4, k4, _, hev, _⟩ := own_Synod ho
  subst hev
  exact ⟨a3, k3, a4, k4, _, _, rfl, ho, Nat.le_refl _, hb.size, Nat.le_refl _, hb⟩
theorem box_own {o W : World} {b : Nat} {s : Sh} {cs : List Value} {x : s.T} {lo hi : Nat} {u0 u1 : Value} (h : Bx W b [u0, u1]) (hb : o.heap.size ≤ b) (hO : Own W s cs x (Btw lo hi)) (hd : b < lo ∨ hi ≤ b) (hB : Below o.heap.size o W) (va vp : Value) :
    Bx ((W.setCell ⟨b, 0, none⟩ va).setCell ⟨b, 1, none⟩ vp) b [va, vp] ∧ Own ((W.setCell ⟨b, 0, none⟩ va).setCell ⟨b, 1, none⟩ vp) s cs x (Btw lo hi) ∧ Below o.heap.size o ((W.setCell ⟨b, 0, none⟩ va).setCell ⟨b, 1, none⟩ vp) ∧ ((W.setCell ⟨b, 0, none⟩ va).setCell ⟨b, 1, none⟩ vp).heap.size = W.heap.size :=
  ⟨(h.set (k := 0) (by simp) va).set (k := 1) (by simp) vp, (hO.set (p := ⟨b, 0, none⟩) (by simp only [Btw]; omega) va).set (p := ⟨b, 1, none⟩) (by simp only [Btw]; omega) vp, (hB.setCell (p := ⟨b, 0, none⟩) hb va).setCell (p := ⟨b, 1, none⟩) hb vp, by simp only [World.size_setCell]⟩
end Go.Proofs.Ytmhkfangfhanlaa
