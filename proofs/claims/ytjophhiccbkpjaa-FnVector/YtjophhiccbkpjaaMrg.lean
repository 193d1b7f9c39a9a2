/- The contracts of l2Merge and of both MergeClock. -/
import Derived.Test.YtjophhiccbkpjaaClk
import Derived.Test.YtjophhiccbkpjaaLst
import Derived.Test.YtjophhiccbkpjaaRowS
namespace Go.Proofs.Ytjophhiccbkpjaa
open Go.RowKit
set_option linter.unusedVariables false

theorem six_of_sl {w : World} {b off : Nat} {x : Nat → Int} (h : Elems w b off 6 1 (intF x)) : ∀ j u, (six x)[j]? = some u → w.cell? ((⟨b, off, none⟩ : Addr).add j) = some u := by
  intro j u hu
  have hj : j < 6 := by
    rcases Nat.lt_or_ge j 6 with h | h
    · exact h
    · rw [List.getElem?_eq_none (by simpa [six] using h)] at hu; cases hu
  have e : ((⟨b, off, none⟩ : Addr).add j) = ⟨b, off + j, none⟩ := by unfold Addr.add; split <;> simp_all
  rw [e, int_cell h hj, ← hu]
  revert hj
  exact upto6 (P := fun j => some (Value.int .i64 (x j)) = (six x)[j]?) rfl rfl rfl rfl rfl rfl j

set_option maxRecDepth 100000 in
set_option maxHeartbeats 1000000 in
theorem l2Merge_any (a : Option Addr) (cap : Nat) (X : Nat → Int) (a' : Option Addr) (cap' : Nat) (Y : Nat → Int) (w : World) (hs : Sl w a 6 1 (intF X)) (hs' : Sl w a' 6 1 (intF Y)) :
    Calls Try.prog 60 #[.slice a 6 cap, .slice a' 6 cap'] w fun r w' => (∃ g cap2, r = .returned (.slice (some ⟨g, 0, none⟩) 6 cap2) ∧ IntS w' w.heap.size w'.heap.size (some ⟨g, 0, none⟩) 6 (fun i => max (X i) (Y i))) ∧ Below w.heap.size w w' := by
  obtain ⟨i0, hi, hz0, hz1, hz2⟩ := info_parts info_int
  rcases hs with h | ⟨b, off, rfl, hbs, hE⟩
  · omega
  have HE : Hid (Elems w b off 6 1 (intF X) ∧ Sl w a' 6 1 (intF Y)) := ⟨hE, hs'⟩
  clear hE hs'
  go_enter Try.func60, Try.ntmps60
  go_wp2_with (at_builtin; refine wpList_append_own _ rfl (.tmp 8) (.tmp 9) 25 rfl w.heap.size 3 i0 (.int .i64 0) 1 8 Try.underlying25 hi hz0 hz1 hz2 rfl (by decide) (.slice (some ⟨w.heap.size, 0, none⟩) 0 0) 0 [] rfl (World.ownsRow_made w #[] 0 (Nat.le_refl _) (by unfold maxLen; omega) rfl) ⟨b, off, none⟩ 6 cap (six X) rfl rfl (six_of_sl (HE.out.1.below (Go.Joins.below_alloc1 _ _) hbs)) (by intro u hu; simp [six] at hu; rcases hu with rfl | rfl | rfl | rfl | rfl | rfl <;> rfl) (by unfold maxLen; omega) (by omega) (by simp) ?_; intro v1 w1 hown hgrow hnil)
  obtain ⟨g, cap2, rfl⟩ := Go.Joins.ownsRow_form hown (by omega)
  obtain ⟨a1, cap1, he, hx⟩ := ints_of_row hown
  simp only [Value.slice.injEq] at he
  obtain ⟨rfl, _, rfl⟩ := he
  have hb : Below w.heap.size w w1 := ((Below.refl w.heap.size w).alloc (Nat.le_refl _) (.cells #[] 3)).grown hgrow (by simp) (fun k hk => by simp [Value.ownBlock] at hk; omega)
  have HH : Hid (IntS w1 w.heap.size w1.heap.size (some ⟨g, 0, none⟩) 6 X ∧ Below w.heap.size w w1) := ⟨hx, hb⟩
  clear hown hgrow hnil hx hb
  go_wp2
  go_loopw [13] (fun i wr => ∃ k : Nat, k ≤ 6 ∧ i = .int .i64 k ∧ IntS wr w.heap.size w1.heap.size (some ⟨g, 0, none⟩) 6 (part max X Y k) ∧ w1.heap.size ≤ wr.heap.size ∧ Below w.heap.size w wr) (fun i _ => 6 - (intOf i).toNat)
  case atStart => exact ⟨0, Nat.zero_le _, rfl, HH.out.1.congr (fun i _ => by simp [part]), Nat.le_refl _, HH.out.2⟩
  case round =>
    obtain ⟨k, hk, rfl, hI, hsz, hBr⟩ := hrel
    clear HH
    by_cases hlt : k < 6
    · rcases HE.out.2.below hBr (Nat.le_refl _) with h | ⟨b', off', rfl, hbs', hE'⟩
      · omega
      have hlt' : (k : Int) < 6 := by omega
      have hc' := int_cell hE' hlt
      obtain ⟨g', eg, hgB, hgC, hgs, hx⟩ := hI.resolve_left (by omega)
      simp only [Option.some.injEq, Addr.mk.injEq, and_true] at eg
      subst eg
      have hc : wr.cell? ⟨g, k, none⟩ = some (.int .i64 (X k)) := by have := (hx k hlt).1; simpa [part] using this
      have hf := (hx k hlt).2
      have HR : Hid (IntS wr w.heap.size w1.heap.size (some ⟨g, 0, none⟩) 6 (part max X Y k) ∧ w1.heap.size ≤ wr.heap.size ∧ Below w.heap.size w wr) := ⟨hI, hsz, hBr⟩
      clear hI hsz hBr hx hE'
      by_cases hm : X k < Y k
      · go_wp2
        go_roundw
        case rel => exact ⟨k + 1, by omega, by go_num, (HR.out.1.set hlt).congr (part_step max X Y k (max_gt hm)), by simpa using HR.out.2.1, HR.out.2.2.setCell (p := ⟨g, k, none⟩) hgB _⟩
        case measure => simp [intOf]; omega
      · go_wp2
        go_roundw
        case rel =>
          refine ⟨k + 1, by omega, by go_num, HR.out.1.congr (fun i hi => ?_), HR.out.2.1, HR.out.2.2⟩
          rw [← part_step max X Y k (max_ngt hm) i hi]
          by_cases e : i = k
          · subst e; simp [part]
          · rw [if_neg e]
        case measure => simp [intOf]; omega
    · have hk6 : k = 6 := by omega
      subst hk6
      have HR : Hid (IntS wr w.heap.size wr.heap.size (some ⟨g, 0, none⟩) 6 (fun i => max (X i) (Y i)) ∧ Below w.heap.size w wr) := ⟨(hI.congr (part_full max X Y)).wide (Nat.le_refl _) hsz, hBr⟩
      clear hI hBr
      go_wp2
      go_ret
      exact ⟨⟨g, cap2, rfl, HR.out.1⟩, HR.out.2⟩
end Go.Proofs.Ytjophhiccbkpjaa
