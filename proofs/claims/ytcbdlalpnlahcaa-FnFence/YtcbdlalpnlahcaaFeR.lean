/- Fences: a member goes. No walk is here. -/
import Derived.Test.YtcbdlalpnlahcaaFeQ
namespace Go.Proofs.Ytcbdlalpnlahcaa
open Go.RowKit
set_option linter.unusedVariables false
set_option linter.unusedSimpArgs false

theorem ownx_one {W : World} {lo : Nat} : ∀ {s : Ty} {cs : List Value} {x : s.T} {S : Nat → Prop}, OwnX W lo s cs x S → ∀ u ∈ cs, u.oneCell' = true
  | .int, cs, n, S, h, u, hu => by have h : cs = [.int .i64 n] := h; subst h; simp at hu; subst hu; rfl
  | .str, cs, n, S, h, u, hu => by have h : cs = [.string n] := h; subst h; simp at hu; subst hu; rfl
  | .bool, cs, n, S, h, u, hu => by have h : cs = [.bool n] := h; subst h; simp at hu; subst hu; rfl
  | .nil, cs, n, S, h, u, hu => by have h : cs = [] := h; subst h; cases hu
  | .pair a b, cs, x, S, h, u, hu => by
    obtain ⟨c1, c2, S1, S2, rfl, h1, h2, _⟩ := h
    rcases List.mem_append.1 hu with q | q
    · exact ownx_one h1 u q
    · exact ownx_one h2 u q
  | .list e t, cs, l, S, h, u, hu => by
    rcases h with ⟨_, rfl⟩ | ⟨g, cap, xs, B, rfl, _⟩
    · simp at hu; subst hu; rfl
    · simp at hu; subst hu; rfl
/-- A member goes: the others' cells in a new row. -/
theorem fe_leave {w : World} {lo g k1 : Nat} {S1 : Nat → Prop} {ms : List (Sh.T shMember)} (h : OwnX w lo (.list tyMember 37) [.slice (some ⟨g, 0, none⟩) ms.length k1] ms S1) {i : Nat} (hi : i < ms.length) :
    ∃ xs : List Value, xs.length = ms.length * 4 ∧ (∀ j u, xs[j]? = some u → w.cell? ⟨g, j, none⟩ = some u) ∧ (∀ u ∈ xs, u.oneCell' = true) ∧ ms.length ≤ k1 ∧ g < w.heap.size ∧
      ∀ (W : World) (v' : Value), (∀ b, b < w.heap.size → S1 b → W.heap[b]? = w.heap[b]?) → W.ownsRow lo 37 4 v' (ms.length - 1) (xs.take (i * 4) ++ xs.drop ((i + 1) * 4)) → (∀ k, v'.ownBlock = some k → ¬ S1 k) → OwnX W lo (.list tyMember 37) [v'] (ms.eraseIdx i) (fun k => S1 k ∨ v'.ownBlock = some k) := by
  rcases h with ⟨hl, _⟩ | ⟨g', cap, xs, B, e1, hr, hlg, hg, h3, h4, h5⟩
  · rw [hl] at hi; exact absurd hi (Nat.not_lt_zero i)
  have e2 : g = g' ∧ k1 = cap := by
    simp only [List.cons.injEq, Value.slice.injEq, Option.some.injEq, Addr.mk.injEq, and_true, true_and] at e1
    exact ⟨e1.1, e1.2.2⟩
  obtain ⟨rfl, rfl⟩ := e2
  have hr : XRow w 37 g k1 ms.length 4 xs := hr
  have hxl : xs.length = ms.length * 4 := hr.len
  have hone : ∀ u ∈ xs, u.oneCell' = true := fun u hu => by
    obtain ⟨j, hj, rfl⟩ := List.getElem_of_mem hu
    have hq : j / 4 < ms.length := by omega
    have ho := ownx_one (h5 (j / 4) hq)
    have hc : (xs.drop (j / 4 * 4)).take 4 = (xs.drop (j / 4 * tyMember.c)).take tyMember.c := rfl
    refine ho xs[j] ?_
    rw [← hc, List.mem_iff_getElem?]
    exact ⟨j % 4, by rw [List.getElem?_take_of_lt (by omega), List.getElem?_drop, show j / 4 * 4 + j % 4 = j by omega, List.getElem?_eq_getElem hj]⟩
  refine ⟨xs, hxl, fun j u hu => ?_, hone, ?_, hr.lt, fun W v' hW hrow hnew => ?_⟩
  · have hj : j < ms.length * 4 := by
      have := (List.getElem?_eq_some_iff.1 hu).1; omega
    rw [hr.cell hj]; exact hu
  · obtain ⟨_, _, q, _⟩ := hr; exact q
  · have hel : List.length (α := Sh.T shMember) (ms.eraseIdx i) = List.length (α := Sh.T shMember) ms - 1 := List.length_eraseIdx_of_lt hi
    refine OwnX.of_row (xs := xs.take (i * 4) ++ xs.drop ((i + 1) * 4)) (B := fun j => if j < i then B j else B (j + 1)) (show W.ownsRow lo 37 4 v' (List.length (α := Sh.T shMember) (ms.eraseIdx i)) _ from by rw [hel]; exact hrow) (fun k hk => Or.inr hk) (fun j hj k hk => ?_) (fun j j' hjj hj k hk q => ?_) (fun j hj => ?_)
    · have hj : j < List.length (α := Sh.T shMember) ms - 1 := hel ▸ (show j < List.length (α := Sh.T shMember) (ms.eraseIdx i) from hj)
      have hk2 : S1 k := by
        have a1 : j < List.length (α := Sh.T shMember) ms := by omega
        have a2 : j + 1 < List.length (α := Sh.T shMember) ms := by omega
        split at hk
        · exact (h3 j a1 k hk).1
        · exact (h3 (j + 1) a2 k hk).1
      exact ⟨Or.inl hk2, fun q => hnew k q hk2⟩
    · have hj : j' < List.length (α := Sh.T shMember) ms - 1 := hel ▸ (show j' < List.length (α := Sh.T shMember) (ms.eraseIdx i) from hj)
      have a1 : j' < List.length (α := Sh.T shMember) ms := by omega
      have a2 : j' + 1 < List.length (α := Sh.T shMember) ms := by omega
      split at hk <;> split at q
      · exact h4 j j' hjj a1 k hk q
      · exact h4 j (j' + 1) (by omega) a2 k hk q
      · omega
      · exact h4 (j + 1) (j' + 1) (by omega) a2 k hk q
    · have hj2 : j < List.length (α := Sh.T shMember) ms - 1 := hel ▸ (show j < List.length (α := Sh.T shMember) (ms.eraseIdx i) from hj)
      have key : ∀ (q : Nat) (hq : q < ms.length) (Bq : Nat → Prop), Bq = B q → ((xs.take (i * 4) ++ xs.drop ((i + 1) * 4)).drop (j * tyMember.c)).take tyMember.c = (xs.drop (q * tyMember.c)).take tyMember.c → (ms.eraseIdx i)[j]'(by rw [hel]; exact hj2) = ms[q] → OwnX W lo tyMember (((xs.take (i * 4) ++ xs.drop ((i + 1) * 4)).drop (j * tyMember.c)).take tyMember.c) ((ms.eraseIdx i)[j]'(by rw [hel]; exact hj2)) Bq := fun q hq Bq e1 e2 e3 => by
        rw [e2, e3, e1]
        exact (h5 q hq).keep (fun b hb hs => hW b hb (h3 q hq b hs).1)
      have hc4 : tyMember.c = 4 := rfl
      by_cases q : j < i
      · refine key j (show j < List.length (α := Sh.T shMember) ms by omega) _ (by simp only [if_pos q]) ?_ (by rw [List.getElem_eraseIdx, dif_pos q])
        rw [hc4]
        apply List.ext_getElem?
        intro z
        by_cases hz : z < 4
        · rw [List.getElem?_take_of_lt hz, List.getElem?_take_of_lt hz, List.getElem?_drop, List.getElem?_drop, List.getElem?_append_left (by rw [List.length_take]; omega), List.getElem?_take_of_lt (by omega)]
        · rw [List.getElem?_eq_none (by rw [List.length_take]; omega), List.getElem?_eq_none (by rw [List.length_take]; omega)]
      · refine key (j + 1) (show j + 1 < List.length (α := Sh.T shMember) ms by omega) _ (by simp only [if_neg q]) ?_ (by rw [List.getElem_eraseIdx, dif_neg q])
        rw [hc4]
        apply List.ext_getElem?
        intro z
        by_cases hz : z < 4
        · rw [List.getElem?_take_of_lt hz, List.getElem?_take_of_lt hz, List.getElem?_drop, List.getElem?_drop, List.getElem?_append_right (by rw [List.length_take]; omega), List.getElem?_drop, List.length_take]
          congr 1; omega
        · rw [List.getElem?_eq_none (by rw [List.length_take]; omega), List.getElem?_eq_none (by rw [List.length_take]; omega)]
end Go.Proofs.Ytcbdlalpnlahcaa
