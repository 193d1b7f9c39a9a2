/- The contracts of the specification's l2Merge and VectorOf. -/
import Derived.Test.YtjophhiccbkpjaaVcI
import Derived.Test.YtjophhiccbkpjaaCau
namespace Go.Proofs.Ytjophhiccbkpjaa
open Go.RowKit
set_option linter.unusedVariables false

set_option maxRecDepth 100000 in
set_option maxHeartbeats 2000000 in
theorem l2MergeV_any (ga gb : Nat) (x y : Nat → Int) (ca cb : Nat) (w : World) (hx : Vec w ga x) (hy : Vec w gb y) :
    Calls Try.prog 60 #[.slice (some ⟨ga, 0, none⟩) 6 ca, .slice (some ⟨gb, 0, none⟩) 6 cb] w fun r w' => (∃ g cap, r = .returned (.slice (some ⟨g, 0, none⟩) 6 cap) ∧ w.heap.size ≤ g ∧ Vec w' g (fun i => max (x i) (y i))) ∧ Below w.heap.size w w' := by
  obtain ⟨i0, hi, hz0, hz1, hz2⟩ := info_parts info_int
  have HV : Hid (Vec w ga x ∧ Vec w gb y) := ⟨hx, hy⟩
  clear hx hy
  go_enter Try.func60, Try.ntmps60
  go_wp2_with (at_builtin; refine wpList_append_own _ rfl (.tmp 8) (.tmp 9) 25 rfl w.heap.size 3 i0 (.int .i64 0) 1 8 Try.underlying25 hi hz0 hz1 hz2 rfl (by decide) (.slice (some ⟨w.heap.size, 0, none⟩) 0 0) 0 [] rfl (World.ownsRow_made w #[] 0 (Nat.le_refl _) (by unfold maxLen; omega) rfl) ⟨ga, 0, none⟩ 6 ca (six x) rfl rfl (six_at (HV.out.1.below (Go.Joins.below_alloc1 _ _) HV.out.1.2)) (by intro u hu; simp [six] at hu; rcases hu with rfl | rfl | rfl | rfl | rfl | rfl <;> rfl) (by unfold maxLen; omega) (by omega) (by simp) ?_; intro v1 w1 hown hgrow hnil)
  obtain ⟨a, cap, rfl, hxx⟩ := ints_of_row hown
  have hb := ((Below.refl w.heap.size w).alloc (Nat.le_refl _) (.cells #[] 3)).grown hgrow (by simp) (fun k hk => by simp [Value.ownBlock] at hk; omega)
  rcases hxx with h | ⟨g, rfl, hg1, hg2, hg3, hg4⟩
  · omega
  have H1 : Hid (Vec w1 g x ∧ Below w.heap.size w w1) := ⟨⟨hg4, hg3⟩, hb⟩
  clear hown hgrow hnil hb hg2 hg3 hg4 hi hz0 hz1 hz2
  go_wp2
  go_loopw [13] (fun i wr => ∃ k : Nat, k ≤ 6 ∧ i = .int .i64 k ∧ Vec wr g (part max x y k) ∧ Below w.heap.size w wr) (fun i _ => 6 - (intOf i).toNat)
  case atStart => exact ⟨0, Nat.zero_le _, rfl, H1.out.1.congr (fun i _ => by simp [part]), H1.out.2⟩
  case round =>
    obtain ⟨k, hk, rfl, hV, hB⟩ := hrel
    by_cases hlt : k < 6
    · have hlt' : (k : Int) < 6 := by omega
      have hc : wr.cell? ⟨g, k, none⟩ = some (.int .i64 (x k)) := by have := (hV.1 k hlt).1; simpa [part] using this
      have hf := (hV.1 k hlt).2
      have hgz := hV.2
      have hy := ((HV.out.2.below hB HV.out.2.2).1 k hlt).1
      have hbz : gb < wr.heap.size := Nat.lt_of_lt_of_le HV.out.2.2 hB.size
      have HH : Hid (Vec wr g (part max x y k) ∧ Below w.heap.size w wr) := ⟨hV, hB⟩
      clear hV hB
      by_cases hm : x k < y k
      · go_wp2
        go_roundw
        case rel => exact ⟨k + 1, by omega, by go_num, (HH.out.1.set hlt _).congr (part_step max x y k (max_gt hm)), HH.out.2.setCell (p := ⟨g, k, none⟩) hg1 _⟩
        case measure => simp [intOf]; omega
      · go_wp2
        go_roundw
        case rel => exact ⟨k + 1, by omega, by go_num, HH.out.1.congr (fun i hi => by
          have := part_step max x y k (max_ngt hm) i hi
          rw [← this]
          by_cases e : i = k
          · subst e; simp [part]
          · simp [e]), HH.out.2⟩
        case measure => simp [intOf]; omega
    · have hk6 : k = 6 := by omega
      subst hk6
      have HF : Hid (Vec wr g (fun i => max (x i) (y i)) ∧ Below w.heap.size w wr) := ⟨hV.congr (part_full max x y), hB⟩
      clear hV hB
      go_wp2
      go_ret
      exact ⟨⟨g, cap, rfl, hg1, HF.out.1⟩, HF.out.2⟩

/-- What the two causes give, one after the other. -/
def accV (vo vs : Nat → Int) : Nat → Nat → Int
  | 0, _ => 0
  | 1, p => vo p
  | _, p => max (vo p) (vs p)
theorem rep_at : ∀ i, i < 6 → (List.replicate 6 (Value.int .i64 0))[i]? = some (.int .i64 0) := upto6 rfl rfl rfl rfl rfl rfl
theorem vec_made {w : World} {g : Nat} {e : TypeId} {cap : Nat} (h : w.ownsRow g e 1 (.slice (some ⟨g, 0, none⟩) 6 cap) 6 (madeCells (Value.int .i64 0).cells (6 * 1)).toList) : Vec w g (fun _ => 0) := by
  have e0 : (madeCells (Value.int .i64 0).cells (6 * 1)).toList = List.replicate 6 (.int .i64 0) := toList_madeCells_one _ _
  rw [e0] at h
  refine ⟨fun i hi => ⟨?_, ?_⟩, (h.lt g rfl).2⟩
  · rw [World.ownsRow.cellAt h i (by simpa using hi)]; exact rep_at i hi
  · obtain ⟨_, h | ⟨g', cap', cur, hv, hb, hh, hn, hm, hs, ht⟩⟩ := h
    · exact absurd h.1 (by simp)
    · simp only [Value.slice.injEq, Option.some.injEq, Addr.mk.injEq, and_true, true_and] at hv
      obtain ⟨rfl, rfl⟩ := hv
      exact Go.Joins.unfrozen_of_block hh i

end Go.Proofs.Ytjophhiccbkpjaa
