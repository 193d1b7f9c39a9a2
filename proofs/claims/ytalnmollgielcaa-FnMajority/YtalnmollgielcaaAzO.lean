/- append(l, make([]T, k)...) onto a row of the call's own, with room or without; a list of groups that is being drawn. -/
import Derived.Test.YtalnmollgielcaaDgD
import Derived.Test.YtalnmollgielcaaMnB
import Derived.Lib.AppendZerosOnto
namespace Go.Proofs.Ytalnmollgielcaa
open Go.RowKit
set_option linter.unusedVariables false

theorem run_zeros_room {P : Program} (w : World) (t tn ty e : TypeId) (i : TypeInfo) (z : Value) (kq kn : IntKind) (ht : P.underlying t = some (.slice e)) (htn : P.underlying tn = some (.int kn)) (hi : P.info? e = some i) (hz : i.zero = some z)
    (g sLen sCap : Nat) (cur : Array Value) (hg : w.heap[g]? = some (.cells cur e (0, 0))) (k : Nat) (h0 : 0 < k) (hs : 0 < i.size) (news : List Value) (hn : news = (Builtin.zeroCells z.cells k).toList) (h1 : ∀ u ∈ news, u.oneCell' = true)
    (h63 : (k : Int) ≤ 9223372036854775807) (h48 : k * i.bytes ≤ 281474976710656) (hroom : sLen + k ≤ sCap) (hfit : sLen * i.size + news.length ≤ cur.size) :
    (Builtin.append_ #[t, tn] ty #[.slice (some ⟨g, 0, none⟩) sLen sCap, .int kq k]).run P w =
      .ok (.slice (some ⟨g, 0, none⟩) (sLen + k) sCap) (w.setRow g (cur.toList.take (sLen * i.size) ++ news ++ cur.toList.drop (sLen * i.size + news.length)).toArray) := by
  have hk : k ≠ 0 := by omega
  have hw : IntKind.i64.wrap (k : Int) = k := by rw [IntKind.wrap_i64]; omega
  have h48i : ¬ (281474976710656 < (k : Int) * (i.bytes : Int)) := by
    rw [← Int.natCast_mul]
    omega
  have hneg : ¬ ((k : Int) < 0) := by omega
  have hns : ¬ (k * i.size = 0) := Nat.mul_ne_zero hk (by omega)
  have hst := run_storeCells_at P g (sLen * i.size) e news 0 cur w hg (by simpa using hfit) h1
  simp only [Nat.add_zero] at hst
  have hst2 := hst
  rw [hn] at hst2
  simp [Builtin.append_, run_underlying ht, run_underlying htn, sizeOf, typeInfo, zeroValue, hi, hz, asInt, asIntOf, hw, hneg, hns, h48i, hroom, Addr.add_lit]
  simp [hst2, hn]
theorem run_zeros_own {P : Program} (w : World) (base : Nat) (t tn ty e : TypeId) (i : TypeInfo) (z : Value) (kq kn : IntKind) (size bytes : Nat) (ht : P.underlying t = some (.slice e)) (htn : P.underlying tn = some (.int kn)) (hi : P.info? e = some i) (hz : i.zero = some z)
    (hsize : i.size = size) (hby : i.bytes = bytes) (hzs : z.cells.size = size) (hsz : 0 < size)
    (v : Value) (n : Nat) (xs : List Value) (hown : w.ownsRow base e size v n xs) (k : Nat) (h0 : 0 < k) (news : List Value) (hn : news = (Builtin.zeroCells z.cells k).toList) (h1 : ∀ u ∈ news, u.oneCell' = true)
    (h63 : n + k ≤ maxLen) (hbytes : (n + k) * bytes ≤ 140737488355328) (hbase : base ≤ w.heap.size) :
    ∃ v' w', (Builtin.append_ #[t, tn] ty #[v, .int kq k]).run P w = .ok v' w' ∧ w'.ownsRow base e size v' (n + k) (xs ++ news) ∧ w.grownBy w' v.ownBlock ∧ (v'.ownBlock = v.ownBlock ∨ v'.ownBlock = some w.heap.size) := by
  subst hsize
  subst hby
  have hsmall : n + k ≤ 9223372036854775807 := by simp only [maxLen] at h63; omega
  have hl : news.length = k * i.size := by rw [hn]; simp [size_zeroCells, hzs]
  have hlen : (xs ++ news).length = (n + k) * i.size := by rw [List.length_append, hown.1, hl, Nat.add_mul]
  have hkb : k * i.bytes ≤ 281474976710656 := by have := Nat.mul_le_mul_right i.bytes (show k ≤ n + k by omega); omega
  have grown : ∀ (old : Nat), ∀ (row : Option Nat),
      (w.drew.alloc (.cells (xs.toArray ++ Builtin.zeroCells z.cells k ++ Builtin.zeroCells z.cells (grownCap w (n + k) old e - (n + k))) e)).ownsRow base e i.size
        (.slice (some ⟨w.heap.size, 0, none⟩) (n + k) (grownCap w (n + k) old e)) (n + k) (xs ++ news) ∧
      w.grownBy (w.drew.alloc (.cells (xs.toArray ++ Builtin.zeroCells z.cells k ++ Builtin.zeroCells z.cells (grownCap w (n + k) old e - (n + k))) e)) row := by
    intro old row
    have hge := grownCap_ge w (n + k) old e
    have hcm : grownCap w (n + k) old e ≤ maxLen := grownCap_le_maxLen w (n + k) old e h63
    refine ⟨⟨hlen, .inr ⟨w.heap.size, _, _, rfl, hbase, heap_alloc_new w.drew _, hge, hcm, ?_, ?_⟩⟩, ⟨rfl, rfl, rfl, by simp, fun k hk _ => Go.heap_alloc_old w.drew _ hk⟩⟩
    · simp only [Array.size_append, List.size_toArray, size_zeroCells, hzs, hown.1, ← Nat.add_mul]
      congr 1
      omega
    · simp only [Array.toList_append, List.append_assoc]
      rw [← hn, ← List.append_assoc, ← hlen]
      exact List.take_left
  rcases hown.2 with ⟨rfl, rfl⟩ | ⟨g, cap, cur, rfl, hbg, hg, hnc, hcm, hcs, htake⟩
  · have hx : xs = [] := List.eq_nil_of_length_eq_zero (by simpa using hown.1)
    subst hx
    have hr := Go.Lib.run_append_nil_zeros (P := P) w t tn ty e i z kq kn ht htn hi hz k h0 hsz (by omega) hkb
    have hgr := grown 0 (Value.ownBlock (.slice none 0 0))
    simp only [Nat.zero_add, List.nil_append, Array.empty_append] at hgr ⊢
    exact ⟨_, _, hr, hgr.1, hgr.2, Or.inr rfl⟩
  · by_cases hroom : n + k ≤ cap
    · have hfit : n * i.size + news.length ≤ cur.size := by rw [hl, hcs, ← Nat.add_mul]; exact Nat.mul_le_mul_right _ hroom
      have hr := run_zeros_room (P := P) w t tn ty e i z kq kn ht htn hi hz g n cap cur hg k h0 hsz news hn h1 (by omega) hkb hroom hfit
      refine ⟨_, _, hr, ⟨hlen, .inr ⟨g, cap, _, rfl, hbg, setRow_heap w g cur _ e _ hg, hroom, hcm, ?_, ?_⟩⟩, ⟨rfl, rfl, rfl, by simp, fun k _ hk => setRow_other w g k _ (fun e => hk (by simp [Value.ownBlock, e]))⟩, Or.inl rfl⟩
      · simp only [List.size_toArray, List.length_append, List.length_take, List.length_drop, Array.length_toList]
        omega
      · rw [htake, ← hlen]
        exact List.take_left
    · have holds : ∀ j u, xs[j]? = some u → w.cell? ((⟨g, 0, none⟩ : Addr).add j) = some u := hown.cells (g := g) rfl
      have hr := Go.Lib.run_append_grow_zeros (P := P) w t tn ty e i z kq kn ht htn hi hz (some ⟨g, 0, none⟩) n cap xs (run_firstCells_some (P := P) w.drew i.size n ⟨g, 0, none⟩ n cap xs hown.1 holds) k h0 hsz (by omega) (by omega) hkb (growslice_fits (by omega) hbytes)
      have hgr := grown cap (Value.ownBlock (.slice (some ⟨g, 0, none⟩) n cap))
      exact ⟨_, _, hr, hgr.1, hgr.2, Or.inr rfl⟩

theorem wpList_zeros_own {P : Program} (w : World) {ops : Array Oper} {rest : List Oper} {o : Oper} {a : Act} {Q : Exit → Act → World → Prop} (hgd : o.guard = none) (s x : Operand) (t tn : TypeId)
    (ho : o.op = .call { callee := .builtin .append, args := #[s, x], argTypes := #[t, tn] })
    (base : Nat) (e : TypeId) (i : TypeInfo) (z : Value) (kq kn : IntKind) (size bytes : Nat) (ht : P.underlying t = some (.slice e)) (htn : P.underlying tn = some (.int kn)) (hi : P.info? e = some i) (hz : i.zero = some z)
    (hsize : i.size = size) (hby : i.bytes = bytes) (hzs : z.cells.size = size) (hsz : 0 < size)
    (v : Value) (n : Nat) (xs : List Value) (hs : a.eval s = v) (hown : w.ownsRow base e size v n xs) (k : Nat) (hx : a.eval x = .int kq k) (h0 : 0 < k) (news : List Value) (hn : news = (Builtin.zeroCells z.cells k).toList) (h1 : ∀ u ∈ news, u.oneCell' = true)
    (h63 : n + k ≤ maxLen) (hbytes : (n + k) * bytes ≤ 140737488355328) (hbase : base ≤ w.heap.size)
    (h : ∀ v' w', w'.ownsRow base e size v' (n + k) (xs ++ news) → w.grownBy w' v.ownBlock → (v'.ownBlock = v.ownBlock ∨ v'.ownBlock = some w.heap.size) → wpList P ops Q rest (a.put o.dst v') w') :
    wpList P ops Q (o :: rest) a w := by
  obtain ⟨v', w', hr, h2, h3, h4⟩ := run_zeros_own (P := P) w base t tn o.type e i z kq kn size bytes ht htn hi hz hsize hby hzs hsz v n xs hown k h0 news hn h1 h63 hbytes hbase
  exact Go.Lib.wpList_append_run w hgd s x t tn ho v _ hs hx v' w' hr (h v' w' h2 h3 h4)
theorem zero_groups : List.replicate 40 (Value.slice none 0 0) = (Builtin.zeroCells (Value.agg #[.slice none 0 0]).cells 40).toList := by kernel_rfl

/-- v holds n groups, each with a list that no append into the row of groups touches. -/
def GyB (W : World) (lo : Nat) (v : Value) (n : Nat) (V : Nat → GV) (A : Nat → GA) (b : Nat → Nat) : Prop :=
  W.ownsRow lo 25 1 v n (gC V A n) ∧ (∀ r, r < n → IntS W (b r) (b r + 1) (A r).a (V r).n (V r).x) ∧ (∀ r, r < n → (V r).n ≠ 0 → lo ≤ b r ∧ b r < W.heap.size ∧ v.ownBlock ≠ some (b r))
theorem GyB.nil (W : World) (lo : Nat) (V : Nat → GV) : GyB W lo (.slice none 0 0) 0 V (fun _ => default) (fun _ => 0) := ⟨World.ownsRow_nil _ _ _ _, fun r hr => absurd hr (by omega), fun r hr => absurd hr (by omega)⟩
theorem GyB.trn {W W' : World} {lo g : Nat} {v : Value} {n : Nat} {V : Nat → GV} {A : Nat → GA} {b : Nat → Nat} (h : GyB W lo v n V A b) (ht : Trn g (g + 1) W W') (hg : g < lo) : GyB W' lo v n V A b := by
  obtain ⟨h1, h2, h3⟩ := h
  exact ⟨own_trn h1 ht hg, fun r hr => ints_same (h2 r hr) (fun e => ht.2.2.2.2 _ (h3 r hr e).2.1 (by have := (h3 r hr e).1; omega)) ht.2.2.2.1, fun r hr e => ⟨(h3 r hr e).1, Nat.lt_of_lt_of_le (h3 r hr e).2.1 ht.2.2.2.1, (h3 r hr e).2.2⟩⟩
theorem GyB.alloc {W : World} {lo : Nat} {v : Value} {n : Nat} {V : Nat → GV} {A : Nat → GA} {b : Nat → Nat} (h : GyB W lo v n V A b) (o : Obj) : GyB (W.alloc o) lo v n V A b := by
  obtain ⟨h1, h2, h3⟩ := h
  have hb : Below W.heap.size W (W.alloc o) := Go.Joins.below_alloc1 _ _
  exact ⟨World.ownsRow.alloc h1 _, fun r hr => ints_same (h2 r hr) (fun e => hb.block _ (h3 r hr e).2.1) hb.size, fun r hr e => ⟨(h3 r hr e).1, Nat.lt_of_lt_of_le (h3 r hr e).2.1 hb.size, (h3 r hr e).2.2⟩⟩
theorem GyB.app {W W' : World} {lo lo2 : Nat} {v v' : Value} {n : Nat} {V : Nat → GV} {A : Nat → GA} {b : Nat → Nat} {X : GV} {a : Option Addr} {c : Nat} (h : GyB W lo v n V A b) (hlo : lo ≤ lo2) (hv : ∀ k, v.ownBlock = some k → k < lo2)
    (hi : IntS W lo2 W.heap.size a X.n X.x) (hg : W.grownBy W' v.ownBlock) (hown : W'.ownsRow lo 25 1 v' (n + 1) (gC V A n ++ [.slice a X.n c]))
    (hwh : v'.ownBlock = v.ownBlock ∨ v'.ownBlock = some W.heap.size) : ∃ b', GyB W' lo v' (n + 1) (fun r => if r = n then X else V r) (fun r => if r = n then ⟨a, c⟩ else A r) b' := by
  obtain ⟨h1, h2, h3⟩ := h
  have hq : ∃ q : Nat, IntS W q (q + 1) a X.n X.x ∧ (X.n ≠ 0 → lo2 ≤ q ∧ q < W.heap.size) := by
    rcases hi with e | ⟨g, ha, hB, hc, r⟩
    · exact ⟨0, Or.inl e, fun ne => absurd e ne⟩
    · exact ⟨g, Or.inr ⟨g, ha, Nat.le_refl _, by omega, r⟩, fun _ => ⟨hB, hc⟩⟩
  obtain ⟨q, hq1, hq2⟩ := hq
  have hvq : ∀ k, k < W.heap.size → (v.ownBlock ≠ some k) → W'.heap[k]? = W.heap[k]? := fun k hk hne => hg.block k hk (fun e => hne e.symm)
  refine ⟨fun r => if r = n then q else b r, ?_, ?_, ?_⟩
  · have e : gC (fun r => if r = n then X else V r) (fun r => if r = n then ⟨a, c⟩ else A r) (n + 1) = gC V A n ++ [.slice a X.n c] := by
      rw [gC, gC, List.range_succ, List.map_append]
      congr 1
      · apply List.map_congr_left
        intro r hr
        have hr := List.mem_range.1 hr
        simp only [if_neg (show ¬ r = n by omega)]
      · simp
    rw [e]; exact hown
  · refine upto_more (fun r hr => ?_) ?_
    · simp only [if_neg (show ¬ r = n by omega)]
      exact ints_same (h2 r hr) (fun ne => hvq _ (h3 r hr ne).2.1 (h3 r hr ne).2.2) hg.size
    · simp only [if_true]
      exact ints_same hq1 (fun ne => hvq _ (hq2 ne).2 (fun e => by have := hv q e; have := (hq2 ne).1; omega)) hg.size
  · refine upto_more (fun r hr ne => ?_) (fun ne => ?_)
    · simp only [if_neg (show ¬ r = n by omega)] at ne ⊢
      have h := h3 r hr ne
      refine ⟨h.1, Nat.lt_of_lt_of_le h.2.1 hg.size, ?_⟩
      rcases hwh with e | e
      · rw [e]; exact h.2.2
      · rw [e]; intro e2; have := Option.some.inj e2; omega
    · simp only [if_true] at ne ⊢
      have h := hq2 ne
      refine ⟨by omega, Nat.lt_of_lt_of_le h.2 hg.size, ?_⟩
      rcases hwh with e | e
      · rw [e]; intro e2; have := hv q e2; omega
      · rw [e]; intro e2; have := Option.some.inj e2; omega
theorem GyB.many {W W' : World} {lo k : Nat} {v v' : Value} {n : Nat} {V : Nat → GV} {A : Nat → GA} {b : Nat → Nat} (h : GyB W lo v n V A b)
    (hg : W.grownBy W' v.ownBlock) (hown : W'.ownsRow lo 25 1 v' (n + k) (gC V A n ++ List.replicate k (.slice none 0 0)))
    (hwh : v'.ownBlock = v.ownBlock ∨ v'.ownBlock = some W.heap.size) : GyB W' lo v' (n + k) (fun r => if r < n then V r else ⟨0, fun _ => 0⟩) (fun r => if r < n then A r else ⟨none, 0⟩) b := by
  obtain ⟨h1, h2, h3⟩ := h
  have hvq : ∀ k, k < W.heap.size → (v.ownBlock ≠ some k) → W'.heap[k]? = W.heap[k]? := fun k hk hne => hg.block k hk (fun e => hne e.symm)
  refine ⟨?_, ?_, ?_⟩
  · have e : gC (fun r => if r < n then V r else ⟨0, fun _ => 0⟩) (fun r => if r < n then A r else ⟨none, 0⟩) (n + k) = gC V A n ++ List.replicate k (.slice none 0 0) := by
      apply List.ext_getElem?
      intro j
      rcases Nat.lt_or_ge j n with hj | hj
      · rw [List.getElem?_append_left (by simpa [gC] using hj)]
        simp [gC, hj, show j < n + k by omega]
      · rw [List.getElem?_append_right (by simpa [gC] using hj)]
        rcases Nat.lt_or_ge j (n + k) with hk | hk
        · simp [gC, hk, show ¬ j < n by omega, show j - n < k by omega]
        · simp [gC, show ¬ j < n + k by omega, show ¬ j - n < k by omega]
    rw [e]; exact hown
  · intro r hr
    by_cases hj : r < n
    · simp only [if_pos hj]
      exact ints_same (h2 r hj) (fun ne => hvq _ (h3 r hj ne).2.1 (h3 r hj ne).2.2) hg.size
    · simp only [if_neg hj]
      exact Or.inl rfl
  · intro r hr ne
    by_cases hj : r < n
    · simp only [if_pos hj] at ne
      have h := h3 r hj ne
      refine ⟨h.1, Nat.lt_of_lt_of_le h.2.1 hg.size, ?_⟩
      rcases hwh with e | e
      · rw [e]; exact h.2.2
      · rw [e]; intro e2; have := Option.some.inj e2; omega
    · simp only [if_neg hj] at ne
      exact absurd rfl ne
theorem GyB.post {W : World} {lo : Nat} {v : Value} {n : Nat} {V : Nat → GV} {A : Nat → GA} {b : Nat → Nat} (h : GyB W lo v n V A b) : ∃ a cap, v = .slice a n cap ∧ GsS W a n V A ∧ n ≤ cap ∧ cap ≤ maxLen := by
  obtain ⟨h1, h2, h3⟩ := h
  have hin : ∀ i, i < n → Sl W (A i).a (V i).n 1 (intF (V i).x) := fun i hi => (h2 i hi).sl
  have hcc : ∀ a cap, v = .slice a n cap → n ≤ cap ∧ cap ≤ maxLen := by
    rintro a cap rfl
    rcases h1.2 with ⟨e, hn⟩ | ⟨g, c, cur, e, _, _, q1, q2, _⟩
    · simp only [Value.slice.injEq] at e
      obtain ⟨_, _, rfl⟩ := e
      exact ⟨by omega, Nat.zero_le _⟩
    · simp only [Value.slice.injEq, true_and] at e
      obtain ⟨_, rfl⟩ := e
      exact ⟨q1, q2⟩
  rcases Nat.eq_zero_or_pos n with e | e
  · subst e
    obtain ⟨_, h | ⟨g, cap, cur, rfl, _⟩⟩ := h1
    · exact ⟨none, 0, h.1, ⟨Or.inl rfl, hin⟩, hcc _ _ h.1⟩
    · exact ⟨_, cap, rfl, ⟨Or.inl rfl, hin⟩, hcc _ _ rfl⟩
  · obtain ⟨g, cap, rfl⟩ := Go.Joins.ownsRow_form h1 e
    have hg := h1.lt g rfl
    refine ⟨_, cap, rfl, ⟨Or.inr ⟨g, 0, rfl, hg.2, fun i hi j hj => ?_⟩, hin⟩, hcc _ _ rfl⟩
    have hj0 : j = 0 := by omega
    subst hj0
    have := h1.cellAt i (by simpa using hi)
    simp only [Nat.zero_add, Nat.mul_one, Nat.add_zero]
    rw [this]
    simp [gC, hi, gsF]
end Go.Proofs.Ytalnmollgielcaa
