/- Nets: contracts as the laws want them; sizes, how many marks. -/
import Derived.Test.YtcklpcdgckkahaaNeN
import Derived.Test.YtcklpcdgckkahaaShC
import Derived.Test.YtcklpcdgckkahaaShB
namespace Go.Proofs.Ytcklpcdgckkahaa
open Go.RowKit
set_option linter.unusedVariables false
set_option linter.unusedSimpArgs false

theorem sz_flat {e : Sh} (h : ∀ x, szD e x = 0) : ∀ l : List e.T, szD (.list e) l = l.length := by
  intro l
  have : (l.map (szD e)).sum = 0 := by
    induction l with
    | nil => rfl
    | cons x t ih => rw [List.map_cons, List.sum_cons, h, ih]
  show l.length + (l.map (szD e)).sum = l.length
  omega
theorem sz_ints (l : List (Sh.T .int)) : szD (.list .int) l = l.length := sz_flat (fun _ => rfl) l
theorem sz_banks (l : List (Sh.T shBank)) : szD (.list shBank) l = l.length := sz_flat (fun _ => rfl) l
theorem sz_parcels (l : List (Sh.T shParcel)) : szD (.list shParcel) l = l.length := sz_flat (fun _ => rfl) l
theorem sz_bsteps (l : List (Sh.T shBankStep)) : szD (.list shBankStep) l = l.length := sz_flat (fun _ => rfl) l
theorem sz_way (y : Sh.T shWay) : szD shWay y = (wpc y).length + (wse y).length := by
  have e : szD shWay y = 0 + (0 + (szD (.list shParcel) (wpc y) + (0 + (szD (.list .int) (wse y) + 0)))) := rfl
  rw [e, sz_parcels, sz_ints]; omega
theorem sz_net {bs : List (Sh.T shBank)} {ws : List (Sh.T shWay)} {N M : Nat} (hb : bs.length ≤ N) (hw : ws.length ≤ N) (h : ∀ y ∈ ws, (wpc y).length + (wse y).length ≤ M) : szD shNet (bs, ws, ()) ≤ N + N + N * M := by
  have e : szD shNet (bs, ws, ()) = szD (.list shBank) bs + ((ws.length + (ws.map (szD shWay)).sum) + 0) := rfl
  rw [e, sz_banks]
  have h2 : ∀ l : List (Sh.T shWay), (∀ y ∈ l, (wpc y).length + (wse y).length ≤ M) → (l.map (szD shWay)).sum ≤ l.length * M := by
    intro l
    induction l with
    | nil => intro _; simp
    | cons y t ih =>
      intro h
      have h1 := h y List.mem_cons_self
      have h2 := ih (fun z hz => h z (List.mem_cons_of_mem _ hz))
      rw [List.map_cons, List.sum_cons, List.length_cons, Nat.add_mul, Nat.one_mul, sz_way]; omega
  have h3 := h2 ws h
  have h4 : ws.length * M ≤ N * M := Nat.mul_le_mul_right M hw
  omega
theorem small_net : Small shNet := ⟨⟨by decide, trivial, trivial, trivial, trivial⟩, ⟨by decide, trivial, trivial, ⟨by decide, trivial, trivial, trivial⟩, trivial, ⟨by decide, trivial⟩, trivial⟩, trivial⟩
theorem cnt_net {bs : List (Sh.T shBank)} {ws : List (Sh.T shWay)} (h : szD shNet (bs, ws, ()) ≤ 1073741824) : cntT shNet (bs, ws, ()) ≤ 100000000000 := by
  have h1 := cntT_le shNet (bs, ws, ())
  have h2 := cnt_le shNet (bs, ws, ()) small_net
  have h3 : shNet.c = 2 := rfl
  omega
theorem cnt_intsN {l : List (Sh.T .int)} (h : szD (.list .int) l ≤ 1073741824) : cntD (.list .int) l ≤ 100000000000 := by
  have h2 := cnt_le (.list .int) l ⟨by decide, trivial⟩
  have h3 : (Sh.list .int).c = 1 := rfl
  omega
theorem cnt_boolsN {l : List (Sh.T .bool)} (h : szD (.list .bool) l ≤ 1073741824) : cntD (.list .bool) l ≤ 100000000000 := by
  have h2 := cnt_le (.list .bool) l ⟨by decide, trivial⟩
  have h3 : (Sh.list .bool).c = 1 := rfl
  omega
theorem cnt_bsteps {l : List (Sh.T shBankStep)} (h : szD (.list shBankStep) l ≤ 1073741824) : cntD (.list shBankStep) l ≤ 100000000000 := by
  have h2 := cnt_le (.list shBankStep) l ⟨by decide, trivial, trivial, trivial, trivial, trivial⟩
  have h3 : (Sh.list shBankStep).c = 1 := rfl
  omega
theorem nw_sizes (am : List (Sh.T .int)) : szD shNet (nbA am, nyA am, ()) ≤ 1073741824 := by
  by_cases h : nwP am
  · obtain ⟨e1, e2, _⟩ := nw_some h
    rw [e1, e2]
    have h1 := h.1
    refine Nat.le_trans (sz_net (N := 20) (M := 0) (by rw [nwB_len]; omega) (by
      rw [nwW_len]
      exact Nat.le_trans (Nat.mul_le_mul (show am.length ≤ 5 by omega) (show am.length - 1 ≤ 4 by omega)) (by decide)) (fun y hy => ?_)) (by decide)
    obtain ⟨i, _, rfl⟩ := List.mem_map.1 hy
    exact Nat.le_refl _
  · obtain ⟨e1, e2, _⟩ := nw_none h
    rw [e1, e2]; decide
theorem anx_out {bs : List (Sh.T shBank)} {ws : List (Sh.T shWay)} {ok : Bool} {w w' : World} {r : Ending} (h : AnX bs ws ok w r w') : AnsP shNet (bs, ws, ()) ok w r w' := by
  obtain ⟨v1, v2, e, hO, hB⟩ := h
  exact ⟨[v1, v2], e, hO.own, hB⟩
theorem specNewNet_l (a : Option Addr) (k : Nat) (am : List (Sh.T .int)) (w : World) (NB : List (Sh.T shBank)) (NY : List (Sh.T shWay)) (z : Bool) (hA : nbA am = NB ∧ nyA am = NY ∧ tf (nwP am) = z) (hz : szD (.list .int) am ≤ 1073741824) (h : Lies w (.list .int) [.slice a am.length k] am) :
    Calls Try.prog 27 #[.slice a am.length k] w (AnsP shNet (NB, NY, ()) z w) := by
  obtain ⟨rfl, rfl, rfl⟩ := hA
  exact (specNewNet_x a k am w (by rw [sz_ints] at hz; exact hz) h).mono (fun r w' => anx_out)
theorem newNet_l (a : Option Addr) (k : Nat) (am : List (Sh.T .int)) (w : World) (NB : List (Sh.T shBank)) (NY : List (Sh.T shWay)) (z : Bool) (hA : nbA am = NB ∧ nyA am = NY ∧ tf (nwP am) = z) (hz : szD (.list .int) am ≤ 1073741824) (h : Lies w (.list .int) [.slice a am.length k] am) :
    Calls Try.prog 29 #[.slice a am.length k] w (AnsP shNet (NB, NY, ()) z w) := by
  obtain ⟨rfl, rfl, rfl⟩ := hA
  exact (newNet_x a k am w (by rw [sz_ints] at hz; exact hz) h).mono (fun r w' => anx_out)
end Go.Proofs.Ytcklpcdgckkahaa
