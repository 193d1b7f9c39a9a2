/- slices.Insert at []int: one element put between others. -/
import Derived.Test.YtaofolbnommpgaaMgB
import Derived.Test.YtaofolbnommpgaaProg
import Derived.WalkKit
import Derived.WalkSpells
import Derived.WalkLawsBesides
namespace Go.Proofs.Ytaofolbnommpgaa
open Go.RowKit
set_option linter.unusedVariables false
set_option linter.unusedSimpArgs false

theorem info_InI : (Try.prog.info? 3).map (fun i => (i.zero, i.size, i.bytes)) = some (some (.int .i64 0), 1, 8) := by kernel_rfl
theorem size_InI : (Try.prog.info? 3).map (·.size) = some 1 := by kernel_rfl
theorem sof_InI : ∀ w, (Go.sizeOf 3).run Try.prog w = .ok 1 w := fun w => by kernel_rfl

set_option maxHeartbeats 4000000 in
set_option maxRecDepth 100000 in
theorem insRoom_I (g n c i vb : Nat) (cur : Array Value) (vs : List Value) (tv : TypeId) (w : World) (hi : i < n) (hc : n + 1 ≤ c) (hc63 : c ≤ 9223372036854775807) (hg : w.heap[g]? = some (.cells cur 3 (0, 0))) (hcs : cur.size = c * 1) (hv : w.heap[vb]? = some (.cells vs.toArray tv (0, 0))) (hvl : vs.length = 1) (hvb : vb ≠ g) (h1c : ∀ v ∈ cur.toList.take (n * 1), v.oneCell' = true) (h1v : ∀ v ∈ vs, v.oneCell' = true) :
    Calls Try.prog 122 #[.slice (some ⟨g, 0, none⟩) n c, .int .i64 i, .slice (some ⟨vb, 0, none⟩) 1 1] w fun e w' =>
      e = .returned (.slice (some ⟨g, 0, none⟩) (n + 1) c) ∧ w' = w.drew.setRow g (shift2 (shift1 cur.toList 1 n i) 1 i vs).toArray := by
  have hz2 : ¬ ((i : Int) = (n : Int)) := by omega
  have hov : ∀ o lb cb, (callFunc 133 #[.slice (some ⟨vb, 0, none⟩) 1 1, .slice (some ⟨g, o, none⟩) lb cb]).run Try.prog w = .ok (.value (.bool false)) w := fun o lb cb => by
    rw [run_callFunc_extern Try.func133 (by kernel_rfl) (by kernel_rfl) (by kernel_rfl) (e := Extern.SlicesOverlaps.overlaps #[51, 51] #[4]) (by kernel_rfl),
      Lib.run_overlaps_apart w 51 4 3 Try.underlying51 1 sof_InI ⟨vb, 0, none⟩ ⟨g, o, none⟩ 1 1 lb cb hvb tv 3 vs.toArray.size cur.size (by simp [World.shape?, hv]) (by simp [World.shape?, hg]) (by omega) (by simp [World.frozen?, hv]) (by simp [World.frozen?, hv])]
    rfl
  have hcp1 : ∀ ty dc sc, (Builtin.copy_ #[51, 51] ty #[.slice (some ⟨g, (i + 1) * 1, none⟩) (n - i) dc, .slice (some ⟨g, i * 1, none⟩) (n + 1 - i) sc]).run Try.prog w.drew = .ok (goInt ((n - i : Nat) : Int)) (w.drew.setRow g (shift1 cur.toList 1 n i).toArray) := fun ty dc sc => by
    have hm : Nat.min (n + 1 - i) (n - i) = n - i := by simp only [Nat.min_def]; split <;> omega
    have hl : ((cur.toList.drop (i * 1)).take ((n - i) * 1)).length = (n - i) * 1 := by simp [hcs]; omega
    have := run_copyK (P := Try.prog) w.drew 51 51 ty 3 1 g ((i + 1) * 1) (n - i) dc ⟨g, i * 1, none⟩ (n + 1 - i) sc cur 3 ((cur.toList.drop (i * 1)).take ((n - i) * 1)) Try.underlying51 size_InI hg (by rw [hl, hm])
      (fun j v hj => by
        rw [add0, cell_row (w := w.drew) hg]
        rw [List.getElem?_take] at hj
        split at hj
        · rw [List.getElem?_drop] at hj; simpa using hj
        · cases hj)
      (by rw [hl, hcs]; omega)
      (fun v hv => h1c v (by
        have : (cur.toList.drop (i * 1)).take ((n - i) * 1) = (cur.toList.take (n * 1)).drop (i * 1) := by rw [List.drop_take]; congr 1; omega
        rw [this] at hv
        exact List.mem_of_mem_drop hv))
    rw [hm, hl] at this
    exact this
  obtain ⟨c1, hc1⟩ : ∃ c1 : Array Value, c1 = (shift1 cur.toList 1 n i).toArray := ⟨_, rfl⟩
  have hl1 : c1.size = c * 1 := by
    have := shift_len (cur := cur.toList) (vs := vs) (k := 1) hi hc (by simpa using hcs)
    rw [hc1]; simpa using this
  have hcp2 : ∀ (W : World), W.heap[g]? = some (.cells c1 3 (0, 0)) → W.heap[vb]? = some (.cells vs.toArray tv (0, 0)) → ∀ ty dc, (Builtin.copy_ #[51, 51] ty #[.slice (some ⟨g, i * 1, none⟩) (n + 1 - i) dc, .slice (some ⟨vb, 0, none⟩) 1 1]).run Try.prog W = .ok (goInt 1) (W.setRow g (shift2 (shift1 cur.toList 1 n i) 1 i vs).toArray) := fun W hWg hWv ty dc => by
    have hm : Nat.min 1 (n + 1 - i) = 1 := by simp only [Nat.min_def]; split <;> omega
    have := run_copyK (P := Try.prog) W 51 51 ty 3 1 g (i * 1) (n + 1 - i) dc ⟨vb, 0, none⟩ 1 1 c1 3 vs Try.underlying51 size_InI hWg (by rw [hvl, hm, Nat.one_mul])
      (fun j v hj => by rw [add0, cell_row hWv, Nat.zero_add]; simpa using hj) (by rw [hvl, hl1]; omega) h1v
    rw [hm] at this
    rw [this, hc1]
    rfl
  have hW1 : (w.drew.setRow g c1).heap[g]? = some (.cells c1 3 (0, 0)) := setRow_heap w.drew g cur c1 3 _ hg
  have hW2 : (w.drew.setRow g c1).heap[vb]? = some (.cells vs.toArray tv (0, 0)) := (setRow_other w.drew g c1 vb hvb).trans hv
  rw [← hc1] at hcp1
  have hfin : (w.drew.setRow g c1).setRow g (shift2 (shift1 cur.toList 1 n i) 1 i vs).toArray = w.drew.setRow g (shift2 (shift1 cur.toList 1 n i) 1 i vs).toArray := setRow_setRow _ _ _ _
  have hcp3 := hcp2 (w.drew.setRow g c1) hW1 hW2
  rw [hfin] at hcp3
  clear hcp2 hW1 hW2 hl1 hfin
  generalize (shift2 (shift1 cur.toList 1 n i) 1 i vs).toArray = c2 at *
  clear hc1 hg hv h1c h1v
  have hb1 : (0 : Int) ≤ (i : Int) + 1 := by omega
  have hin : i ≤ n := by omega
  have htn : ((i : Int) + 1).toNat = i + 1 := by omega
  have hb2 : ¬ (c = i + 1) := by omega
  have hb3 : (i : Int) ≤ (n : Int) + 1 := by omega
  have hb4 : ¬ (c = i) := by omega
  have hb5 : (i : Int) + 1 ≤ (n : Int) + 1 := by omega
  have hw1 : IntKind.i64.wrap ((i : Int) + 1) = (i : Int) + 1 := by rw [IntKind.wrap_i64]; omega
  have mixed : Try.prog.follows .mixedOrders = true := by kernel_rfl
  simp only [Nat.mul_one] at hcp1 hcp3
  go_enter Try.func122, Try.ntmps122
  go_wp2_with (simp only [hov])
  go_region_law_o (refine step_copy_runI rfl _ _ 51 51 rfl _ _ (by simp [Act.eval, Act.put]) (by simp [Act.eval, Act.put]) (hcp1 _ _ _) ?_)
  go_wp2_with (at_builtin; refine wpList_copy_runI _ rfl _ _ 51 51 rfl _ _ rfl rfl (hcp3 _ _) ?_)
  go_ret
  exact ⟨rfl, rfl⟩
set_option maxHeartbeats 4000000 in
set_option maxRecDepth 100000 in
theorem insGrow_I (base g n i vb : Nat) (cur : Array Value) (vs : List Value) (tv : TypeId) (w : World) (hi : i < n) (hn : n ≤ 1048576) (hg : w.heap[g]? = some (.cells cur 3 (0, 0))) (hcs : cur.size = n * 1) (hv : w.heap[vb]? = some (.cells vs.toArray tv (0, 0))) (hvl : vs.length = 1) (h1c : ∀ v ∈ cur.toList, v.oneCell' = true) (h1v : ∀ v ∈ vs, v.oneCell' = true) (hbase : base ≤ w.heap.size) :
    Calls Try.prog 122 #[.slice (some ⟨g, 0, none⟩) n n, .int .i64 i, .slice (some ⟨vb, 0, none⟩) 1 1] w fun e w' =>
      ∃ G, e = .returned (.slice (some ⟨w.heap.size, 0, none⟩) (n + 1) G) ∧ w'.ownsRow base 3 1 (.slice (some ⟨w.heap.size, 0, none⟩) (n + 1) G) (n + 1) (putAt cur.toList vs (i * 1)) ∧ Below w.heap.size w w' := by
  have hz2 : ¬ ((i : Int) = (n : Int)) := by omega
  obtain ⟨i0, hi0, hz0, hzs, hzb⟩ := info_parts info_InI
  have hgw : g < w.heap.size := (Array.getElem?_eq_some_iff.1 hg).1
  have hvw : vb < w.heap.size := (Array.getElem?_eq_some_iff.1 hv).1
  have hkk : (n : Int) + 1 - (i : Int) = ((n + 1 - i : Nat) : Int) := by omega
  have hik : i + (n + 1 - i) = n + 1 := by omega
  have hold : (Builtin.firstCells i0.size i (.slice (some ⟨g, 0, none⟩) i n)).run Try.prog w.drew = .ok (cur.toList.take (i * 1)).toArray w.drew := by
    rw [hzs]
    exact run_firstCells_some w.drew 1 i ⟨g, 0, none⟩ i n (cur.toList.take (i * 1)) (by simp [hcs] <;> (try omega)) (fun j v hj => by
      rw [add0, cell_row (w := w.drew) hg, Nat.zero_add]
      rw [List.getElem?_take] at hj
      split at hj
      · simpa using hj
      · cases hj)
  have hrz : ∀ ty, (Builtin.append_ #[51, 3] ty #[.slice (some ⟨g, 0, none⟩) i n, .int .i64 ((n : Int) + 1 - (i : Int))]).run Try.prog w =
      .ok (.slice (some ⟨w.heap.size, 0, none⟩) (n + 1) (grownCap w (n + 1) n 3)) (w.drew.alloc (.cells ((cur.toList.take (i * 1)).toArray ++ Builtin.zeroCells (Value.cells (.int .i64 0)) (n + 1 - i) ++ Builtin.zeroCells (Value.cells (.int .i64 0)) (grownCap w (n + 1) n 3 - (n + 1))) 3)) := fun ty => by
    have h := Lib.run_append_grow_zeros w 51 3 ty 3 i0 _ .i64 .i64 Try.underlying51 Try.underlying3 hi0 hz0 (some ⟨g, 0, none⟩) i n (cur.toList.take (i * 1)) hold (n + 1 - i) (by omega) (by omega) (by omega) (by omega) (by rw [hzb]; omega) (by rw [hzb, hik]; exact growslice_fits (by omega) (by omega))
    rw [hik] at h
    rw [hkk]
    exact h
  obtain ⟨G, hG⟩ : ∃ G, G = grownCap w (n + 1) n 3 := ⟨_, rfl⟩
  have hGn : n + 1 ≤ G := by rw [hG]; exact grownCap_ge w _ _ _
  have hGm : G ≤ maxLen := by rw [hG]; exact grownCap_le_maxLen w (n + 1) n 3 (by unfold maxLen; omega)
  have hG63 : G ≤ 9223372036854775807 := by unfold maxLen at hGm; omega
  obtain ⟨Zs, hZs⟩ : ∃ Zs : List Value, Zs = (Builtin.zeroCells (Value.cells (.int .i64 0)) (n + 1 - i) ++ Builtin.zeroCells (Value.cells (.int .i64 0)) (G - (n + 1))).toList := ⟨_, rfl⟩
  have hZl : Zs.length = (G - i) * 1 := by
    have e1 : (Builtin.zeroCells (Value.cells (.int .i64 0)) (n + 1 - i)).size = (n + 1 - i) * 1 := by rw [size_zeroCells]; rfl
    have e2 : (Builtin.zeroCells (Value.cells (.int .i64 0)) (G - (n + 1))).size = (G - (n + 1)) * 1 := by rw [size_zeroCells]; rfl
    rw [hZs, Array.toList_append, List.length_append, Array.length_toList, Array.length_toList, e1, e2]; omega
  obtain ⟨ROW, hROW⟩ : ∃ ROW : Array Value, ROW = (cur.toList.take (i * 1) ++ Zs).toArray := ⟨_, rfl⟩
  have hRE : (cur.toList.take (i * 1)).toArray ++ Builtin.zeroCells (Value.cells (.int .i64 0)) (n + 1 - i) ++ Builtin.zeroCells (Value.cells (.int .i64 0)) (G - (n + 1)) = ROW := by
    rw [hROW, hZs]; apply Array.ext'; simp
  rw [← hG, hRE] at hrz
  have hRl : ROW.size = G * 1 := by rw [hROW]; simp [hcs, hZl] <;> (try omega)
  obtain ⟨c1, hc1⟩ : ∃ c1 : Array Value, c1 = (ROW.toList.take (i * 1) ++ vs ++ ROW.toList.drop (i * 1 + 1)).toArray := ⟨_, rfl⟩
  have hl1 : c1.size = G * 1 := by rw [hc1]; simp [hRl, hvl] <;> (try omega)
  obtain ⟨c2, hc2⟩ : ∃ c2 : Array Value, c2 = (c1.toList.take ((i + 1) * 1) ++ cur.toList.drop (i * 1) ++ c1.toList.drop ((i + 1) * 1 + (n - i) * 1)).toArray := ⟨_, rfl⟩
  have hl2 : c2.size = G * 1 := by rw [hc2]; simp [hl1, hcs] <;> (try omega)
  have hfin : c2.toList.take ((n + 1) * 1) = putAt cur.toList vs (i * 1) := by
    rw [hc2]
    exact grow_is (Z := Zs) (cur := ROW.toList) (c1 := c1.toList) hi (by simpa using hcs) hvl (by rw [hROW]) (by rw [hZl]; omega) (by rw [hc1])
  have hcpA : ∀ (W : World), W.heap[w.heap.size]? = some (.cells ROW 3 (0, 0)) → W.heap[vb]? = some (.cells vs.toArray tv (0, 0)) → ∀ ty dc, (Builtin.copy_ #[51, 51] ty #[.slice (some ⟨w.heap.size, i * 1, none⟩) (n + 1 - i) dc, .slice (some ⟨vb, 0, none⟩) 1 1]).run Try.prog W = .ok (goInt 1) (W.setRow w.heap.size c1) := fun W hWg hWv ty dc => by
    have hm : Nat.min 1 (n + 1 - i) = 1 := by simp only [Nat.min_def]; split <;> omega
    have := run_copyK (P := Try.prog) W 51 51 ty 3 1 w.heap.size (i * 1) (n + 1 - i) dc ⟨vb, 0, none⟩ 1 1 ROW 3 vs Try.underlying51 size_InI hWg (by rw [hvl, hm, Nat.one_mul])
      (fun j v hj => by rw [add0, cell_row hWv, Nat.zero_add]; simpa using hj) (by rw [hvl, hRl]; omega) h1v
    rw [hm, hvl] at this
    rw [this, hc1]
    rfl
  have hcpB : ∀ (W : World), W.heap[w.heap.size]? = some (.cells c1 3 (0, 0)) → W.heap[g]? = some (.cells cur 3 (0, 0)) → ∀ ty dc sc, (Builtin.copy_ #[51, 51] ty #[.slice (some ⟨w.heap.size, (i + 1) * 1, none⟩) (n - i) dc, .slice (some ⟨g, i * 1, none⟩) (n - i) sc]).run Try.prog W = .ok (goInt ((n - i : Nat) : Int)) (W.setRow w.heap.size c2) := fun W hWg hWv ty dc sc => by
    have hm : Nat.min (n - i) (n - i) = n - i := Nat.min_self _
    have hl : (cur.toList.drop (i * 1)).length = (n - i) * 1 := by simp [hcs] <;> (try omega)
    have := run_copyK (P := Try.prog) W 51 51 ty 3 1 w.heap.size ((i + 1) * 1) (n - i) dc ⟨g, i * 1, none⟩ (n - i) sc c1 3 (cur.toList.drop (i * 1)) Try.underlying51 size_InI hWg (by rw [hl, hm])
      (fun j v hj => by
        rw [add0, cell_row hWv]
        rw [List.getElem?_drop] at hj; simpa using hj)
      (by rw [hl, hl1]; omega) (fun v hv => h1c v (List.mem_of_mem_drop hv))
    rw [hm, hl] at this
    rw [this, hc2]
  obtain ⟨W1, hW1⟩ : ∃ W1, W1 = w.drew.alloc (.cells ROW 3) := ⟨_, rfl⟩
  have a1 : W1.heap[w.heap.size]? = some (.cells ROW 3 (0, 0)) := by rw [hW1]; show (w.drew.heap.push _)[w.heap.size]? = _; exact Array.getElem?_push_size
  have a2 : ∀ b, b < w.heap.size → W1.heap[b]? = w.heap[b]? := fun b hb => by rw [hW1]; exact Below.heap_alloc w.drew _ b hb
  have hA := hcpA W1 a1 ((a2 vb hvw).trans hv)
  obtain ⟨W2, hW2⟩ : ∃ W2, W2 = W1.setRow w.heap.size c1 := ⟨_, rfl⟩
  have b1 : W2.heap[w.heap.size]? = some (.cells c1 3 (0, 0)) := by rw [hW2]; exact setRow_heap W1 _ ROW c1 _ _ a1
  have b2 : ∀ b, b < w.heap.size → W2.heap[b]? = w.heap[b]? := fun b hb => by rw [hW2, setRow_other _ _ _ _ (by omega)]; exact a2 b hb
  have hB := hcpB W2.drew b1 ((b2 g hgw).trans hg)
  rw [← hW1] at hrz
  rw [← hW2] at hA
  have HF : Hid ((W2.drew.setRow w.heap.size c2).ownsRow base 3 1 (.slice (some ⟨w.heap.size, 0, none⟩) (n + 1) G) (n + 1) (putAt cur.toList vs (i * 1)) ∧ Below w.heap.size w (W2.drew.setRow w.heap.size c2)) := by
    have o1 := setRow_os W2.drew w.heap.size c2
    have o2 := setRow_os W1 w.heap.size c1
    refine ⟨⟨?_, Or.inr ⟨w.heap.size, G, c2, rfl, hbase, setRow_heap W2.drew _ c1 c2 _ _ b1, hGn, hGm, hl2, hfin⟩⟩, ?_⟩
    · rw [← hfin]; simp [hl2] <;> (try omega)
    · refine ⟨?_, ?_, ?_, ?_, fun b hb => by rw [setRow_other _ _ _ _ (by omega)]; exact b2 b hb⟩
      · rw [o1.1]; show W2.os = w.os; rw [hW2, o2.1, hW1]; rfl
      · rw [o1.2.1]; show W2.tape = w.tape; rw [hW2, o2.2.1, hW1]; rfl
      · rw [o1.2.2.1]; show W2.output = w.output; rw [hW2, o2.2.2.1, hW1]; rfl
      · rw [o1.2.2.2]; show w.heap.size ≤ W2.heap.size; rw [hW2, o2.2.2.2, hW1, World.size_alloc]; exact Nat.le_succ _
  clear hW1 hW2 hcpA hcpB b1 b2 a1 a2 hl1 hl2 hRl hRE hROW hZs hZl hc1 hc2 hfin hold hG hg hv h1c h1v hi0 hz0 hzs hzb hkk hik hGm
  have hb1 : (0 : Int) ≤ (i : Int) + 1 := by omega
  have hin : i ≤ n := by omega
  have htn : ((i : Int) + 1).toNat = i + 1 := by omega
  have hb2 : ¬ (G = i + 1) := by omega
  have hb3 : (i : Int) ≤ (n : Int) + 1 := by omega
  have hb3' : (i : Int) ≤ (n : Int) := by omega
  have hb4 : ¬ (G = i) := by omega
  have hb5 : (i : Int) + 1 ≤ (n : Int) + 1 := by omega
  have hb6 : ¬ (n = i) := by omega
  have hw1 : IntKind.i64.wrap ((i : Int) + 1) = (i : Int) + 1 := by rw [IntKind.wrap_i64]; omega
  have mixed : Try.prog.follows .mixedOrders = true := by kernel_rfl
  simp only [Nat.mul_one] at hrz hA hB
  go_enter Try.func122, Try.ntmps122
  go_wp2_with (first
    | (at_builtin; refine Lib.wpList_append_run _ rfl _ _ _ _ rfl _ _ rfl rfl _ _ (hrz _) ?_)
    | (at_builtin; refine wpList_copy_runI _ rfl _ _ 51 51 rfl _ _ rfl rfl (hA _ _) ?_))

  go_region_law_o (refine step_copy_runI rfl _ _ 51 51 rfl _ _ (by simp [Act.eval, Act.put]) (by simp [Act.eval, Act.put]) (hB _ _ _) ?_)
  go_wp2
  go_ret
  exact ⟨G, rfl, HF.out⟩

set_option maxHeartbeats 4000000 in
set_option maxRecDepth 100000 in
theorem insEnd_I (base n vb : Nat) (v : Value) (xs vs : List Value) (tv : TypeId) (w : World) (hn : n ≤ 1048576) (hown : w.ownsRow base 3 1 v n xs) (hv : w.heap[vb]? = some (.cells vs.toArray tv (0, 0))) (hvl : vs.length = 1) (h1v : ∀ v ∈ vs, v.oneCell' = true) (hbase : base ≤ w.heap.size) :
    Calls Try.prog 122 #[v, .int .i64 n, .slice (some ⟨vb, 0, none⟩) 1 1] w fun e w' =>
      ∃ v', e = .returned v' ∧ w'.ownsRow base 3 1 v' (n + 1) (xs ++ vs) ∧ w.grownBy w' v.ownBlock ∧ (v'.ownBlock = v.ownBlock ∨ v'.ownBlock = some w.heap.size) := by
  obtain ⟨i0, hi0, hz0, hzs, hzb⟩ := info_parts info_InI
  have HV : Hid (∀ j u, vs[j]? = some u → w.cell? ((⟨vb, 0, none⟩ : Addr).add j) = some u) := fun j u hj => by rw [add0, cell_row hv, Nat.zero_add]; simpa using hj
  have HO : Hid (w.ownsRow base 3 1 v n xs) := hown
  have H1 : Hid (∀ u ∈ vs, u.oneCell' = true) := h1v
  have hform : ∃ a c, v = .slice a n c := by
    rcases hown.2 with ⟨e, e0⟩ | ⟨g, c, cur, e, _⟩
    · exact ⟨none, 0, by rw [e, e0]⟩
    · exact ⟨_, c, e⟩
  have hcap : ∃ a c, v = .slice a n c ∧ n ≤ c := by
    rcases hown.2 with ⟨e, e0⟩ | ⟨g, c, cur, e, _, _, h, _⟩
    · exact ⟨none, 0, by rw [e, e0], by omega⟩
    · exact ⟨_, c, e, h⟩
  obtain ⟨a, c, rfl, hnc⟩ := hcap
  clear hform hown h1v hv
  by_cases hcn : c = n
  · subst hcn
    go_enter Try.func122, Try.ntmps122
    go_wp2_with (at_builtin; refine wpList_append_own_at _ rfl (.tmp 23) (.tmp 24) 51 rfl base 3 i0 (.int .i64 0) 1 8 Try.underlying51 hi0 hz0 hzs hzb rfl (by decide) (.slice a c c) c xs rfl HO.out ⟨vb, 0, none⟩ 1 1 vs rfl (by rw [hvl]) HV.out H1.out (by unfold maxLen; omega) (by omega) hbase ?_; intro v4 w4 hown hgrow hnil hwhere)
    go_ret
    exact ⟨v4, rfl, hown, hgrow, hwhere⟩
  · skip
    go_enter Try.func122, Try.ntmps122
    go_wp2_with (at_builtin; refine wpList_append_own_at _ rfl (.tmp 23) (.tmp 24) 51 rfl base 3 i0 (.int .i64 0) 1 8 Try.underlying51 hi0 hz0 hzs hzb rfl (by decide) (.slice a n c) n xs rfl HO.out ⟨vb, 0, none⟩ 1 1 vs rfl (by rw [hvl]) HV.out H1.out (by unfold maxLen; omega) (by omega) hbase ?_; intro v4 w4 hown hgrow hnil hwhere)
    go_ret
    exact ⟨v4, rfl, hown, hgrow, hwhere⟩
theorem insert_I (base n i vb : Nat) (v : Value) (xs vs : List Value) (tv : TypeId) (w : World) (hi : i ≤ n) (hn : n ≤ 1048576) (hown : w.ownsRow base 3 1 v n xs) (h1x : ∀ u ∈ xs, u.oneCell' = true) (hv : w.heap[vb]? = some (.cells vs.toArray tv (0, 0))) (hvl : vs.length = 1) (h1v : ∀ v ∈ vs, v.oneCell' = true) (hbase : base ≤ w.heap.size) (hne : v.ownBlock ≠ some vb) :
    Calls Try.prog 122 #[v, .int .i64 i, .slice (some ⟨vb, 0, none⟩) 1 1] w fun e w' =>
      ∃ v', e = .returned v' ∧ w'.ownsRow base 3 1 v' (n + 1) (putAt xs vs (i * 1)) ∧ w.grownBy w' v.ownBlock ∧ (v'.ownBlock = v.ownBlock ∨ v'.ownBlock = some w.heap.size) := by
  rcases Nat.lt_or_ge i n with hlt | hge
  · rcases hown.2 with ⟨_, h0⟩ | ⟨g, cap, cur, rfl, hb, hg, hnc, hm, hs, ht⟩
    · omega
    have hng : vb ≠ g := fun e => hne (by rw [e]; rfl)
    by_cases hroom : n + 1 ≤ cap
    · refine (insRoom_I g n cap i vb cur vs tv w hlt hroom (by unfold maxLen at hm; omega) hg hs hv hvl hng (by rw [ht]; exact h1x) h1v).mono ?_
      rintro e w' ⟨rfl, rfl⟩
      have o1 := setRow_os w.drew g (shift2 (shift1 cur.toList 1 n i) 1 i vs).toArray
      have hl1 := shift_len (cur := cur.toList) (vs := vs) (k := 1) hlt hroom (by simpa using hs)
      have hl2 : (shift2 (shift1 cur.toList 1 n i) 1 i vs).length = cap * 1 := by simp [shift2, hl1, hvl]; omega
      have hfin := shift_is (cur := cur.toList) (vs := vs) (k := 1) hlt hroom (by simpa using hs) hvl
      rw [ht] at hfin
      refine ⟨_, rfl, ⟨?_, Or.inr ⟨g, cap, _, rfl, hb, setRow_heap w.drew g cur _ _ _ hg, hroom, hm, by simpa using hl2, hfin⟩⟩, ⟨o1.1, o1.2.1, o1.2.2.1, Nat.le_of_eq o1.2.2.2.symm, fun b hb hne => setRow_other w.drew g _ b (fun e => hne (by rw [e]; rfl))⟩, Or.inl rfl⟩
      rw [← hfin, List.length_take, hl2]; omega
    · have hcn : cap = n := by omega
      subst hcn
      have hx : cur.toList = xs := by rw [← ht]; exact (List.take_of_length_le (by simp [hs])).symm
      refine (insGrow_I base g cap i vb cur vs tv w hlt hn hg hs hv hvl (by rw [hx]; exact h1x) h1v hbase).mono ?_
      rintro e w' ⟨G, rfl, ho, hbl⟩
      rw [hx] at ho
      exact ⟨_, rfl, ho, ⟨hbl.os, hbl.tape, hbl.output, hbl.size, fun b hb _ => hbl.block b hb⟩, Or.inr rfl⟩
  · have : i = n := by omega
    subst this
    refine (insEnd_I base i vb v xs vs tv w hn hown hv hvl h1v hbase).mono ?_
    rintro e w' ⟨v', rfl, ho, hgr, hwh⟩
    exact ⟨v', rfl, by rw [putAt_end hown.1]; exact ho, hgr, hwh⟩
end Go.Proofs.Ytaofolbnommpgaa
