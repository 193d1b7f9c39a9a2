/- The contract of the specification's l7Search. -/
import Derived.Test.YtkniokbioggkeaaLsS
import Derived.OwnWalk
namespace Go.Proofs.Ytkniokbioggkeaa
open Go.RowKit
set_option linter.unusedVariables false

theorem info_bool7 : (Try.prog.info? 4).map (fun i => (i.zero, i.size, i.bytes)) = some (some (.bool false), 1, 1) := by kernel_rfl
theorem made_used (n : Nat) : (madeCells (Value.bool false).cells (n * 1)).toList = usedC n [] := by
  have h1 : (madeCells (Value.bool false).cells (n * 1)).toList = List.replicate n (.bool false) := by rw [Nat.mul_one]; exact toList_madeCells_one _ _
  have h2 : usedC n [] = List.replicate n (.bool false) := by
    have : (fun k : Nat => Value.bool (([] : List Nat).contains k)) = fun _ => Value.bool false := rfl
    rw [usedC, this, List.map_const', List.length_range]
  rw [h1, h2]
def SeaPost (own : Bool) (n : Nat) (V : Nat → CallV) (w : World) (r : Ending) (w' : World) : Prop :=
  ((∃ o a' c', srch V n own n [] = some o ∧ r = .returned (.tuple #[.slice a' o.length c', .bool true]) ∧ w'.ownsRow w.heap.size 3 1 (.slice a' o.length c') o.length (ordC o)) ∨ (srch V n own n [] = none ∧ ∃ a' c', r = .returned (.tuple #[.slice a' 0 c', .bool false]))) ∧ Below w.heap.size w w'
set_option maxRecDepth 100000 in
set_option maxHeartbeats 8000000 in
theorem l7Search_any (own : Bool) (a : Option Addr) (n cap : Nat) (V : Nat → CallV) (w : World) (h7 : n ≤ 7) (hs : Sl w a n 6 (callF V)) :
    Calls Try.prog 36 #[.slice a n cap, .bool own] w fun r w' => SeaPost own n V w r w' := by
  have HS : Hid (Sl w a n 6 (callF V)) := hs
  clear hs
  obtain ⟨i0, hi0, hz0, hz1, hz2⟩ := info_parts info_bool7
  go_enter Try.func36, Try.ntmps36
  go_wp2_with (at_make; refine wpList_make_full _ rfl (.tmp 11) (.tmp 11) 80 rfl w.heap.size 4 i0 (.bool false) 1 Try.underlying80 hi0 hz0 (by assumption) .i64 .i64 _ _ n rfl rfl rfl rfl (by rw [hz2]; omega) (by unfold maxLen; omega) (Nat.le_refl _) ?_; intro w2 hown hgrow)
  have hB2 : Below w.heap.size w w2 := (Below.refl _ _).grown hgrow (Nat.le_refl _) (fun k hk => by cases hk)
  rw [made_used] at hown
  have hbu := own_box hown
  have hu := hbu.2
  have hd := Go.Joins.below_alloc1 w2 (.cells #[.slice a n cap, .bool own, .slice (some ⟨w.heap.size, 0, none⟩) n n, .slice none 0 0, .slice none 0 0] 82)
  have HX : Hid (TwoS w.heap.size w (w2.alloc (.cells #[.slice a n cap, .bool own, .slice (some ⟨w.heap.size, 0, none⟩) n n, .slice none 0 0, .slice none 0 0] 82)) w2.heap.size w.heap.size a n cap own V [] []) :=
    ⟨[], _, _, ⟨Bx.new w2 [.slice a n cap, .bool own, .slice (some ⟨w.heap.size, 0, none⟩) n n, .slice none 0 0, .slice none 0 0] _, hbu.next hd, World.ownsRow_nil _ _ _ _, World.ownsRow_nil _ _ _ _, ⟨by omega, by simp [Value.ownBlock], by simp [Value.ownBlock], by simp [Value.ownBlock], by simp [Value.ownBlock], fun b hb => by cases hb⟩, fun p hp => by simp at hp⟩, Sees.nil V n, below_nx hB2 hd⟩
  have HC : Hid (TwoC w.heap.size w w2.heap.size w.heap.size a n cap V) := ⟨HS.out, Nat.le_refl _, by omega, Nat.le_refl _, h7⟩
  clear hB2 hown hgrow hbu hd
  refine (search_any own w.heap.size w w2.heap.size w.heap.size a n cap V HC.out n [] [] _ (OrdOk.nil n) (by simp) HX.out).mono ?_
  rintro r w3 (⟨o, ho, rfl, hone⟩ | ⟨ho, rfl, hone⟩)
  · obtain ⟨L, ov, lv, h1, h2, h3⟩ := hone
    obtain ⟨oa, oc, rfl⟩ : ∃ oa oc, ov = .slice oa o.length oc := by
      rcases Go.Joins.ownsRow_forms h1.2.2.1 with ⟨e, e'⟩ | ⟨gg, cc, e⟩
      · exact ⟨none, 0, by rw [e, e']⟩
      · exact ⟨_, _, e⟩
    have HZ : Hid (SeaPost own n V w (.returned (.tuple #[.slice oa o.length oc, .bool true])) w3) := ⟨Or.inl ⟨o, oa, oc, ho, rfl, h1.2.2.1⟩, h3⟩
    have k1 := h1.1.cell 3 rfl
    have kz := h1.1.2
    clear h1 h2 h3 ho HX
    go_wp2
    exact bodyPost_ret (v := .tuple #[.slice oa o.length oc, .bool true]) (by simp [results, Try.results36, go_sem]) rfl HZ.out
  · obtain ⟨L, ov, lv, h1, h2, h3⟩ := hone
    obtain ⟨oa, oc, rfl⟩ : ∃ oa oc, ov = .slice oa 0 oc := by
      rcases Go.Joins.ownsRow_forms h1.2.2.1 with ⟨e, e'⟩ | ⟨gg, cc, e⟩
      · exact ⟨none, 0, by rw [e]⟩
      · exact ⟨_, _, e⟩
    have HZ : Hid (SeaPost own n V w (.returned (.tuple #[.slice oa 0 oc, .bool false])) w3) := ⟨Or.inr ⟨ho, oa, oc, rfl⟩, h3⟩
    have k1 := h1.1.cell 3 rfl
    have kz := h1.1.2
    clear h1 h2 h3 ho HX
    go_wp2
    exact bodyPost_ret (v := .tuple #[.slice oa 0 oc, .bool false]) (by simp [results, Try.results36, go_sem]) rfl HZ.out
end Go.Proofs.Ytkniokbioggkeaa
