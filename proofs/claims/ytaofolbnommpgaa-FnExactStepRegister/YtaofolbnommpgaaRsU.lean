/- Registers: spec.l9Put: a number put into a rising list. -/
import Derived.Test.YtaofolbnommpgaaRhL
import Derived.Test.YtaofolbnommpgaaNtT
import Derived.Test.YtaofolbnommpgaaHasI
namespace Go.Proofs.Ytaofolbnommpgaa
open Go.RowKit
set_option linter.unusedVariables false
set_option linter.unusedSimpArgs false

theorem cntI_at {l : List (Sh.T .int)} (hr : List.Pairwise (fun a b : Int => a ≤ b) l) {x : Int} {p : Nat} (hp : p ≤ l.length) (h1 : ∀ i (h : i < l.length), i < p → (l[i] : Int) < x) (h2 : ∀ (h : p < l.length), x ≤ (l[p] : Int)) : cntI l x = p := by
  unfold cntI
  have e : l = l.take p ++ l.drop p := (List.take_append_drop p l).symm
  rw [e, List.countP_append]
  have e1 : List.countP (fun a : Int => decide (a < x)) (l.take p) = p := by
    have : List.countP (fun a : Int => decide (a < x)) (l.take p) = (l.take p).length := by
      rw [List.countP_eq_length]
      intro a ha
      obtain ⟨i, hi, rfl⟩ := List.getElem_of_mem ha
      rw [List.length_take] at hi
      rw [List.getElem_take]
      exact decide_eq_true (h1 i (by omega) (by omega))
    rw [this, List.length_take]; omega
  have e2 : List.countP (fun a : Int => decide (a < x)) (l.drop p) = 0 := by
    rw [List.countP_eq_zero]
    intro a ha
    obtain ⟨i, hi, rfl⟩ := List.getElem_of_mem ha
    rw [List.length_drop] at hi
    rw [List.getElem_drop]
    have hpl : p < l.length := by omega
    have h3 := h2 hpl
    rw [List.pairwise_iff_getElem] at hr
    have h4 : (l[p] : Int) ≤ (l[p + i] : Int) := by
      rcases Nat.eq_zero_or_pos i with q | q
      · subst q; exact Int.le_refl _
      · exact hr p (p + i) hpl (by omega) (by omega)
    simp only [decide_eq_true_eq]
    exact Int.not_lt.2 (Int.le_trans h3 h4)
  rw [e1, e2]
  exact Nat.add_zero _

set_option maxRecDepth 100000 in
set_option maxHeartbeats 4000000 in
theorem l9Put_n (v : Value) (l : List (Sh.T .int)) (x : Int) (lo : Nat) (S : Nat → Prop) (w : World) (hn : l.length ≤ 1000) (hr : List.Pairwise (fun a b : Int => a ≤ b) l) (h : OwnX w lo (.list .int 3) [v] l S) :
    Calls Try.prog 91 #[v, .int .i64 x] w (NewX .int 3 (insI l x) w) := by
  obtain ⟨i0, hi0, hz0, hz1, hz2⟩ := info_parts inf_int
  have HR : Hid (List.Pairwise (fun a b : Int => a ≤ b) l) := hr
  rcases h.form with ⟨hl, rfl⟩ | ⟨g, cap, rfl, hg⟩
  · subst hl
    clear h hn hr HR
    go_enter Try.func91, Try.ntmps91
    go_wp2
    go_loopw [5] (fun i wr => i = .int .i64 0 ∧ wr = w) (fun _ _ => 0)
    case atStart => exact ⟨rfl, rfl⟩
    case round =>
      obtain ⟨rfl, rfl⟩ := hrel
      have HT : Hid (Lies wr (.list .int) [.slice none 0 0] []) := ⟨none, 0, rfl, by simp, by simp, Or.inl rfl⟩
      have HD : Hid (Lies wr (.list .int) [.slice none 0 0] []) := HT
      have HF : Hid ([] ++ [] ++ [x] ++ [] = insI [] x) := Hid.intro (by unfold insI; simp)
      go_wp2_with (first
        | (at_builtin; refine wpList_appx rfl (.tmp 21) (.tmp 24) 51 3 rfl i0 (.int .i64 0) 8 wr.heap.size .int rfl Try.underlying51 hi0 hz0 hz1 hz2 rfl (by decide) (.slice none 0 0) [] [] (fun _ => False) rfl OwnX.nil' none 0 rfl HT.out (by simp [maxLen]) (by simp) (Nat.le_refl _) ?_; intro v1 w1 hO1 hg1 hwh1; have H1 := Hid.intro (ApS.app (e := .int) (l2 := []) rfl ApS.nil hO1 hg1); have H1a := Hid.intro (H1.out.next rfl (Go.Joins.below_alloc1 w1 (.cells #[.int .i64 x] 3))); have H1b := Hid.intro (lies_one (w := w1) (e := .int) (cs := [.int .i64 x]) (x := x) 3 rfl rfl); clear hO1 hg1 hwh1)
        | (at_builtin; refine wpList_appx rfl (.tmp 26) (.tmp 28) 51 3 rfl i0 (.int .i64 0) 8 wr.heap.size .int rfl Try.underlying51 hi0 hz0 hz1 hz2 rfl (by decide) v1 ([] ++ []) [x] _ rfl H1a.out.1 (some ⟨w1.heap.size, 0, none⟩) 1 rfl H1b.out (by simp [maxLen]) (by simp) H1a.out.2.size ?_; intro v2 w2 hO2 hg2 hwh2; have H2 := Hid.intro (ApS.app (e := .int) (l2 := [x]) rfl H1a.out hO2 hg2); clear hO2 hg2 hwh2)
        | (at_builtin; refine wpList_appx rfl (.tmp 30) (.tmp 33) 51 3 rfl i0 (.int .i64 0) 8 wr.heap.size .int rfl Try.underlying51 hi0 hz0 hz1 hz2 rfl (by decide) v2 ([] ++ [] ++ [x]) [] _ rfl H2.out.1 none 0 rfl (HD.out.next H2.out.2) (by simp [maxLen]) (by simp) H2.out.2.size ?_; intro v3 w3 hO3 hg3 hwh3; have H3 := Hid.intro (ApS.app (e := .int) (l2 := []) rfl H2.out hO3 hg3); clear hO3 hg3 hwh3)
        | go_in)
      all_goals go_ret
      all_goals exact ⟨_, rfl, HF.out ▸ H3.out⟩
  · have hcap := h.cap rfl
    have HL : Hid (Lies w (.list .int) [.slice (some ⟨g, 0, none⟩) l.length cap] l) := h.lies
    obtain ⟨n, hnn⟩ : ∃ n, n = l.length := ⟨_, rfl⟩
    have HN : Hid (n = l.length) := hnn
    rw [← hnn] at hcap hn HL ⊢
    clear h hnn hr
    go_enter Try.func91, Try.ntmps91
    go_wp2
    go_loopw [5] (fun i wr => ∃ k : Nat, k ≤ n ∧ i = .int .i64 k ∧ (∀ i (h : i < l.length), i < k → (l[i] : Int) < x) ∧ wr = w) (fun i _ => n - (intOf i).toNat)
    case atStart => exact ⟨0, Nat.zero_le _, rfl, fun i _ q => absurd q (by omega), rfl⟩
    case round =>
      obtain ⟨k, hk, rfl, hno, rfl⟩ := hrel
      have HO : Hid (∀ i (h : i < l.length), i < k → (l[i] : Int) < x) := hno
      clear hno
      by_cases hlt : k < n
      · have hlx : k < l.length := by have := HN.out; omega
        have hlt' : (k : Int) < (n : Int) := by omega
        have c0 : wr.cell? ⟨g, k, none⟩ = some (.int .i64 l[k]) := by
          obtain ⟨g', off, hgo, hgs, ec, hel, hec, hle⟩ := Lies.elem HL.out hlx
          have hgo : g = g' ∧ 0 = off := by simpa using hgo
          obtain ⟨rfl, rfl⟩ := hgo
          have hev : ec = [.int .i64 l[k]] := hle
          subst hev
          have := hec 0 (by simp)
          simpa [Sh.c] using this
        obtain ⟨y, hy⟩ : ∃ y : Int, y = l[k] := ⟨_, rfl⟩
        have HY : Hid (y = l[k]) := hy
        rw [← hy] at c0
        clear hy
        by_cases e : y < x
        · have HS : Hid (∀ i (h : i < l.length), i < k + 1 → (l[i] : Int) < x) := Hid.intro (fun i hi q => by
            by_cases q2 : i = k
            · subst q2; rw [← HY.out]; exact e
            · exact HO.out i hi (by omega))
          go_wp2
          go_roundw
          case rel => exact ⟨k + 1, by omega, by go_num, HS.out, trivial⟩
          case measure => simp [intOf]; omega
        · have HC : Hid (cntI l x = k) := Hid.intro (cntI_at HR.out (by omega) HO.out (fun _ => by rw [← HY.out]; omega))
          have hxy : x ≤ y := by omega
          clear e
          have hlk : (l.take k).length = k := by rw [List.length_take]; have := HN.out; omega
          have hld : (l.drop k).length = n - k := by rw [List.length_drop]; have := HN.out; omega
          have HT : Hid (Lies wr (.list .int) [.slice (some ⟨g, 0, none⟩) (l.take k).length cap] (l.take k)) := Hid.intro (by rw [hlk]; exact HL.out.take k (by have := HN.out; omega))
          have hk : k ≤ l.length := by have := HN.out; omega
          have HD : Hid (Lies wr (.list .int) [.slice (some ⟨g, k, none⟩) (l.drop k).length (cap - k)] (l.drop k)) := Hid.intro (by rw [hld]; exact (by have := lies_drop HL.out k hk; simpa [Sh.c] using this))
          have HF : Hid ([] ++ l.take k ++ [x] ++ (l.drop k) = insI l x) := Hid.intro (by unfold insI; rw [HC.out]; simp)
          have hkc : (k : Int) ≤ (cap : Int) := by omega
          have hb1 : 0 + (l.take k).length ≤ maxLen := by unfold maxLen; omega
          have hc1 : (0 + (l.take k).length) * 8 ≤ 140737488355328 := by omega
          have hb2 : ([] ++ l.take k).length + 1 ≤ maxLen := by rw [List.nil_append]; unfold maxLen; omega
          have hc2 : (([] ++ l.take k).length + 1) * 8 ≤ 140737488355328 := by rw [List.nil_append]; omega
          have hb3 : ([] ++ l.take k ++ [x]).length + (((l.drop k) : List (Sh.T .int))).length ≤ maxLen := by rw [List.nil_append, List.length_append, List.length_singleton]; unfold maxLen; omega
          have hc3 : (([] ++ l.take k ++ [x]).length + (((l.drop k) : List (Sh.T .int))).length) * 8 ≤ 140737488355328 := by rw [List.nil_append, List.length_append, List.length_singleton]; omega
          go_wp2_with (first
            | (at_builtin; refine wpList_appx rfl (.tmp 21) (.tmp 24) 51 3 rfl i0 (.int .i64 0) 8 wr.heap.size .int rfl Try.underlying51 hi0 hz0 hz1 hz2 rfl (by decide) (.slice none 0 0) [] (l.take k) (fun _ => False) rfl OwnX.nil' (some ⟨g, 0, none⟩) cap (congrArg (fun z => Value.slice (some ⟨g, 0, none⟩) z cap) hlk.symm) HT.out hb1 hc1 (Nat.le_refl _) ?_; intro v1 w1 hO1 hg1 hwh1; have H1 := Hid.intro (ApS.app (e := .int) (l2 := (l.take k)) rfl ApS.nil hO1 hg1); have H1a := Hid.intro (H1.out.next rfl (Go.Joins.below_alloc1 w1 (.cells #[.int .i64 x] 3))); have H1b := Hid.intro (lies_one (w := w1) (e := .int) (cs := [.int .i64 x]) (x := x) 3 rfl rfl); clear hO1 hg1 hwh1)
            | (at_builtin; refine wpList_appx rfl (.tmp 26) (.tmp 28) 51 3 rfl i0 (.int .i64 0) 8 wr.heap.size .int rfl Try.underlying51 hi0 hz0 hz1 hz2 rfl (by decide) v1 ([] ++ (l.take k)) [x] _ rfl H1a.out.1 (some ⟨w1.heap.size, 0, none⟩) 1 rfl H1b.out hb2 hc2 H1a.out.2.size ?_; intro v2 w2 hO2 hg2 hwh2; have H2 := Hid.intro (ApS.app (e := .int) (l2 := [x]) rfl H1a.out hO2 hg2); clear hO2 hg2 hwh2)
            | (at_builtin; refine wpList_appx rfl (.tmp 30) (.tmp 33) 51 3 rfl i0 (.int .i64 0) 8 wr.heap.size .int rfl Try.underlying51 hi0 hz0 hz1 hz2 rfl (by decide) v2 ([] ++ (l.take k) ++ [x]) (l.drop k) _ rfl H2.out.1 (some ⟨g, k, none⟩) (cap - k) (congrArg (fun z => Value.slice (some ⟨g, k, none⟩) z (cap - k)) hld.symm) (HD.out.next H2.out.2) hb3 hc3 H2.out.2.size ?_; intro v3 w3 hO3 hg3 hwh3; have H3 := Hid.intro (ApS.app (e := .int) (l2 := (l.drop k)) rfl H2.out hO3 hg3); clear hO3 hg3 hwh3)
            | go_in)
          all_goals go_ret
          all_goals exact ⟨_, rfl, HF.out ▸ H3.out⟩
      · have hkn : n ≤ k := by omega
        have HC : Hid (cntI l x = k) := Hid.intro (cntI_at HR.out (by have := HN.out; omega) HO.out (fun hi => by have := HN.out; omega))
        have hlk : (l.take k).length = k := by rw [List.length_take]; have := HN.out; omega
        have HE : Hid (l.drop k = []) := Hid.intro (List.drop_eq_nil_of_le (by have := HN.out; omega))
        have HT : Hid (Lies wr (.list .int) [.slice (some ⟨g, 0, none⟩) (l.take k).length cap] (l.take k)) := Hid.intro (by rw [hlk]; exact HL.out.take k (by have := HN.out; omega))
        have hk : k ≤ l.length := by have := HN.out; omega
        have HD : Hid (Lies wr (.list .int) [.slice (if cap = k then some ⟨g, 0, none⟩ else some ⟨g, k, none⟩) 0 (cap - k)] []) := Hid.intro (by obtain ⟨ad9, c9, e9, h91, h92, _⟩ := HL.out; simp only [List.cons.injEq, Value.slice.injEq, and_true] at e9; obtain ⟨_, _, rfl⟩ := e9; exact ⟨_, _, rfl, by simp, by omega, Or.inl rfl⟩)
        have HF : Hid ([] ++ l.take k ++ [x] ++ [] = insI l x) := Hid.intro (by unfold insI; rw [HC.out, HE.out]; simp)
        have hkc : (k : Int) ≤ (cap : Int) := by omega
        have hb1 : 0 + (l.take k).length ≤ maxLen := by unfold maxLen; omega
        have hc1 : (0 + (l.take k).length) * 8 ≤ 140737488355328 := by omega
        have hb2 : ([] ++ l.take k).length + 1 ≤ maxLen := by rw [List.nil_append]; unfold maxLen; omega
        have hc2 : (([] ++ l.take k).length + 1) * 8 ≤ 140737488355328 := by rw [List.nil_append]; omega
        have hb3 : ([] ++ l.take k ++ [x]).length + (([] : List (Sh.T .int))).length ≤ maxLen := by rw [List.nil_append, List.length_append, List.length_singleton]; unfold maxLen; simp only [List.length_nil]; omega
        have hc3 : (([] ++ l.take k ++ [x]).length + (([] : List (Sh.T .int))).length) * 8 ≤ 140737488355328 := by rw [List.nil_append, List.length_append, List.length_singleton]; simp only [List.length_nil]; omega
        go_wp2_with (first
          | (at_builtin; refine wpList_appx rfl (.tmp 21) (.tmp 24) 51 3 rfl i0 (.int .i64 0) 8 wr.heap.size .int rfl Try.underlying51 hi0 hz0 hz1 hz2 rfl (by decide) (.slice none 0 0) [] (l.take k) (fun _ => False) rfl OwnX.nil' (some ⟨g, 0, none⟩) cap (congrArg (fun z => Value.slice (some ⟨g, 0, none⟩) z cap) hlk.symm) HT.out hb1 hc1 (Nat.le_refl _) ?_; intro v1 w1 hO1 hg1 hwh1; have H1 := Hid.intro (ApS.app (e := .int) (l2 := (l.take k)) rfl ApS.nil hO1 hg1); have H1a := Hid.intro (H1.out.next rfl (Go.Joins.below_alloc1 w1 (.cells #[.int .i64 x] 3))); have H1b := Hid.intro (lies_one (w := w1) (e := .int) (cs := [.int .i64 x]) (x := x) 3 rfl rfl); clear hO1 hg1 hwh1)
          | (at_builtin; refine wpList_appx rfl (.tmp 26) (.tmp 28) 51 3 rfl i0 (.int .i64 0) 8 wr.heap.size .int rfl Try.underlying51 hi0 hz0 hz1 hz2 rfl (by decide) v1 ([] ++ (l.take k)) [x] _ rfl H1a.out.1 (some ⟨w1.heap.size, 0, none⟩) 1 rfl H1b.out hb2 hc2 H1a.out.2.size ?_; intro v2 w2 hO2 hg2 hwh2; have H2 := Hid.intro (ApS.app (e := .int) (l2 := [x]) rfl H1a.out hO2 hg2); clear hO2 hg2 hwh2)
          | (at_builtin; refine wpList_appx rfl (.tmp 30) (.tmp 33) 51 3 rfl i0 (.int .i64 0) 8 wr.heap.size .int rfl Try.underlying51 hi0 hz0 hz1 hz2 rfl (by decide) v2 ([] ++ (l.take k) ++ [x]) [] _ rfl H2.out.1 (if cap = k then some ⟨g, 0, none⟩ else some ⟨g, k, none⟩) (cap - k) rfl (HD.out.next H2.out.2) hb3 hc3 H2.out.2.size ?_; intro v3 w3 hO3 hg3 hwh3; have H3 := Hid.intro (ApS.app (e := .int) (l2 := []) rfl H2.out hO3 hg3); clear hO3 hg3 hwh3)
          | go_in)
        all_goals go_ret
        all_goals exact ⟨_, rfl, HF.out ▸ H3.out⟩
end Go.Proofs.Ytaofolbnommpgaa
