/- The contracts of slices.Clone at lists of six numbers, listFrom and compareVectors. -/
import Derived.Test.YtjophhiccbkpjaaInts
import Derived.Test.YtjophhiccbkpjaaVecF
namespace Go.Proofs.Ytjophhiccbkpjaa
open Go.RowKit
set_option linter.unusedVariables false

def six (x : Nat → Int) : List Value := [.int .i64 (x 0), .int .i64 (x 1), .int .i64 (x 2), .int .i64 (x 3), .int .i64 (x 4), .int .i64 (x 5)]
theorem six_at {w : World} {g : Nat} {x : Nat → Int} (h : Vec w g x) : ∀ j u, (six x)[j]? = some u → w.cell? ((⟨g, 0, none⟩ : Addr).add j) = some u := by
  intro j u hu
  have hj : j < 6 := by
    rcases Nat.lt_or_ge j 6 with h | h
    · exact h
    · rw [List.getElem?_eq_none (by simpa [six] using h)] at hu; cases hu
  have e : ((⟨g, 0, none⟩ : Addr).add j) = ⟨g, j, none⟩ := by unfold Addr.add; split <;> simp_all
  rw [e, (h.1 j hj).1, ← hu]
  revert hj
  exact upto6 (P := fun j => some (Value.int .i64 (x j)) = (six x)[j]?) rfl rfl rfl rfl rfl rfl j
theorem ints_of_row {w : World} {base : Nat} {v : Value} {x : Nat → Int} (h : w.ownsRow base 3 1 v 6 (six x)) : ∃ a cap, v = .slice a 6 cap ∧ IntS w base w.heap.size a 6 x := by
  obtain ⟨g, cap, rfl⟩ := Go.Joins.ownsRow_form h (by omega)
  refine ⟨_, cap, rfl, Or.inr ⟨g, rfl, ?_, ?_, ?_, fun i hi => ⟨?_, ?_⟩⟩⟩
  · exact (h.lt g rfl).1
  · exact (h.lt g rfl).2
  · exact (h.lt g rfl).2
  · have := World.ownsRow.cellAt h i (by simpa using hi)
    rw [this]
    revert hi
    exact upto6 (P := fun j => (six x)[j]? = some (Value.int .i64 (x j))) rfl rfl rfl rfl rfl rfl i
  · obtain ⟨hl, h | ⟨g', cap', cur, hv, hb, hh, hn, hm, hs, ht⟩⟩ := h
    · exact absurd h.1 (by simp)
    · simp only [Value.slice.injEq, Option.some.injEq, Addr.mk.injEq, and_true, true_and] at hv
      obtain ⟨rfl, rfl⟩ := hv
      exact Go.Joins.unfrozen_of_block hh i

set_option maxRecDepth 100000 in
set_option maxHeartbeats 1000000 in
theorem clone_any (g : Nat) (x : Nat → Int) (w : World) (hv : Vec w g x) :
    Calls Try.prog 74 #[.slice (some ⟨g, 0, none⟩) 6 6] w fun r w' => (∃ a cap, r = .returned (.slice a 6 cap) ∧ IntS w' w.heap.size w'.heap.size a 6 x) ∧ Below w.heap.size w w' := by
  obtain ⟨i0, hi, hz0, hz1, hz2⟩ := info_parts info_int
  go_enter Try.func74, Try.ntmps74
  have HV : Hid (Vec w g x) := hv
  clear hv
  have heq : ∀ W : World, (binOp .eql 25 (.slice (some ⟨g, 0, none⟩) 6 6) (.slice none 0 0)).run Try.prog W = .ok (.bool false) W := fun _ => by kernel_rfl
  go_wp2_with (at_builtin; refine wpList_append_own _ rfl (.tmp 5) (.tmp 6) 25 rfl w.heap.size 3 i0 (.int .i64 0) 1 8 Try.underlying25 hi hz0 hz1 hz2 rfl (by decide) (.slice (some ⟨w.heap.size, 0, none⟩) 0 0) 0 [] rfl (World.ownsRow_made w #[] 0 (Nat.le_refl _) (by unfold maxLen; omega) rfl) ⟨g, 0, none⟩ 6 6 (six x) rfl rfl (six_at (HV.out.below (Go.Joins.below_alloc1 _ _) HV.out.2)) (by intro u hu; simp [six] at hu; rcases hu with rfl | rfl | rfl | rfl | rfl | rfl <;> rfl) (by unfold maxLen; omega) (by omega) (by simp) ?_; intro v1 w1 hown hgrow hnil)
  obtain ⟨a, cap, rfl, hx⟩ := ints_of_row hown
  have hb := ((Below.refl w.heap.size w).alloc (Nat.le_refl _) (.cells #[] 3)).grown hgrow (by simp) (fun k hk => by simp [Value.ownBlock] at hk; omega)
  have HH : Hid (IntS w1 w.heap.size w1.heap.size a 6 x ∧ Below w.heap.size w w1) := ⟨hx, hb⟩
  clear hown hgrow hnil hx hb
  go_wp2
  go_ret
  exact ⟨⟨a, cap, rfl, HH.out.1⟩, HH.out.2⟩

set_option maxRecDepth 100000 in
set_option maxHeartbeats 1000000 in
theorem listFrom_any (x : Nat → Int) (w : World) :
    Calls Try.prog 59 #[vec x] w fun r w' => (∃ a cap, r = .returned (.slice a 6 cap) ∧ IntS w' w.heap.size w'.heap.size a 6 x) ∧ Below w.heap.size w w' := by
  unfold vec
  go_enter Try.func59, Try.ntmps59
  go_wp2_with fail
  refine (clone_any _ x _ (Vec.new w x 73)).mono ?_
  rintro r w1 ⟨⟨a, cap, rfl, hx⟩, hb⟩
  have HH : Hid (IntS w1 w.heap.size w1.heap.size a 6 x ∧ Below w.heap.size w w1) := ⟨hx.wide (by simp) (Nat.le_refl _), (Go.Joins.below_alloc1 _ _).trans (hb.mono (by simp))⟩
  clear hx hb
  go_wp2
  go_ret
  exact ⟨⟨a, cap, rfl, HH.out.1⟩, HH.out.2⟩
end Go.Proofs.Ytjophhiccbkpjaa
