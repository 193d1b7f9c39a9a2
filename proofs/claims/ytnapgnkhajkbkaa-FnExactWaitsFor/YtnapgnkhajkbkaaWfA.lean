/- impl.appendPairs; what sorting and compacting make of a list of pairs. -/
import Derived.Test.YtnapgnkhajkbkaaCmP
import Derived.Test.YtnapgnkhajkbkaaWfS
import Derived.Test.YtnapgnkhajkbkaaSoP
namespace Go.Proofs.Ytnapgnkhajkbkaa
open Go.RowKit
set_option linter.unusedVariables false

theorem Bx.same {w w' : World} {g : Nat} {vs : List Value} (h : Bx w g vs) (e : w'.heap[g]? = w.heap[g]?) (hs : w.heap.size ≤ w'.heap.size) : Bx w' g vs :=
  ⟨fun j hj => ⟨(World.cell?_of_block (a := ⟨g, j, none⟩) e).trans (h.1 j hj).1, (World.frozen?_of_block (a := ⟨g, j, none⟩) e).trans (h.1 j hj).2⟩, Nat.lt_of_lt_of_le h.2 hs⟩
/-- What an append into v's row, or a move of it to a new one, leaves as it was. -/
def ApI (W : World) (v0 : Value) (wr : World) (v : Value) : Prop := (∀ j, j < W.heap.size → v0.ownBlock ≠ some j → wr.heap[j]? = W.heap[j]?) ∧ (∀ j, v.ownBlock = some j → v0.ownBlock = some j ∨ W.heap.size ≤ j) ∧ W.heap.size ≤ wr.heap.size
theorem ApI.refl (W : World) (v : Value) : ApI W v W v := ⟨fun _ _ _ => rfl, fun _ h => Or.inl h, Nat.le_refl _⟩
theorem ApI.next {W wr wr' : World} {v0 v : Value} (h : ApI W v0 wr v) (hb : Below wr.heap.size wr wr') : ApI W v0 wr' v :=
  ⟨fun j hj hn => (hb.block j (Nat.lt_of_lt_of_le hj h.2.2)).trans (h.1 j hj hn), h.2.1, Nat.le_trans h.2.2 hb.size⟩
theorem ApI.app {W wr wr' : World} {v0 v v' : Value} (h : ApI W v0 wr v) (hg : wr.grownBy wr' v.ownBlock) (hw : v'.ownBlock = v.ownBlock ∨ v'.ownBlock = some wr.heap.size) : ApI W v0 wr' v' := by
  refine ⟨fun j hj hn => ?_, fun j hj => ?_, Nat.le_trans h.2.2 hg.size⟩
  · rw [hg.block j (Nat.lt_of_lt_of_le hj h.2.2) (fun e => ?_)]
    · exact h.1 j hj hn
    · rcases h.2.1 j e.symm with q | q
      · exact hn q
      · omega
  · rcases hw with e | e
    · rw [e] at hj; exact h.2.1 j hj
    · rw [e] at hj; have := Option.some.inj hj; have := h.2.2; exact Or.inr (by omega)
/-- v holds pairs, those of M, at most b of them. -/
def ApX (w W : World) (v : Value) (M : Int × Int → Prop) (b : Nat) : Prop := ∃ R : List (Int × Int), W.ownsRow w.heap.size 35 2 v R.length (cellsP R) ∧ (∀ z, z ∈ R ↔ M z) ∧ R.length ≤ b ∧ Below w.heap.size w W
theorem ApX.next {w W W' : World} {v : Value} {M : Int × Int → Prop} {b : Nat} (h : ApX w W v M b) (hb : Below W.heap.size W W') : ApX w W' v M b := by
  obtain ⟨R, h1, h3, h4, h5⟩ := h
  exact ⟨R, own_keep h1 hb, h3, h4, below_next h5 hb⟩
theorem ApX.congr {w W : World} {v : Value} {M M' : Int × Int → Prop} {b b' : Nat} (h : ApX w W v M b) (e : ∀ z, M z ↔ M' z) (hb : b ≤ b') : ApX w W v M' b' := by
  obtain ⟨R, h1, h3, h4, h5⟩ := h
  exact ⟨R, h1, fun z => (h3 z).trans (e z), by omega, h5⟩
theorem ApX.below {w W : World} {v : Value} {M : Int × Int → Prop} {b : Nat} (h : ApX w W v M b) : Below w.heap.size w W := by
  obtain ⟨R, h1, h3, h4, h5⟩ := h
  exact h5
theorem ApX.own {w W : World} {v : Value} {M : Int × Int → Prop} {b : Nat} (h : ApX w W v M b) : ∀ j, v.ownBlock = some j → w.heap.size ≤ j ∧ j < W.heap.size := by
  obtain ⟨R, h1, h3, h4, h5⟩ := h
  exact fun j hj => h1.lt j hj
/-- Pairs of t with each of the first k that is not t. -/
def inA (T : Nat → Int) (t : Int) (k : Nat) (z : Int × Int) : Prop := z.1 = t ∧ ∃ p, p < k ∧ z.2 = T p ∧ T p ≠ t
theorem inA_zero {T : Nat → Int} {t : Int} {z : Int × Int} : ¬ inA T t 0 z := fun ⟨_, p, hp, _⟩ => absurd hp (by omega)
theorem inA_yes {T : Nat → Int} {t : Int} {k : Nat} {z : Int × Int} (hn : T k ≠ t) : inA T t (k + 1) z ↔ inA T t k z ∨ z = (t, T k) := by
  constructor
  · rintro ⟨e, p, hp, e2, ne⟩
    by_cases q : p = k
    · subst q; exact Or.inr (Prod.ext e e2)
    · exact Or.inl ⟨e, p, by omega, e2, ne⟩
  · rintro (⟨e, p, hp, e2, ne⟩ | rfl)
    · exact ⟨e, p, by omega, e2, ne⟩
    · exact ⟨rfl, k, by omega, rfl, hn⟩
theorem inA_no {T : Nat → Int} {t : Int} {k : Nat} {z : Int × Int} (hn : T k = t) : inA T t (k + 1) z ↔ inA T t k z := by
  constructor
  · rintro ⟨e, p, hp, e2, ne⟩
    by_cases q : p = k
    · subst q; exact absurd hn ne
    · exact ⟨e, p, by omega, e2, ne⟩
  · rintro ⟨e, p, hp, e2, ne⟩
    exact ⟨e, p, by omega, e2, ne⟩
set_option maxRecDepth 100000 in
set_option maxHeartbeats 4000000 in
theorem appendPairs_any (w W : World) (v : Value) (M : Int × Int → Prop) (b : Nat) (t : Int) (a : Option Addr) (n cap : Nat) (T Q : Nat → Int) (hb : b + n ≤ 1048576) (h : ApX w W v M b) (hs : ∀ W', Below w.heap.size w W' → Sl W' a n 2 (hdF T Q)) :
    Calls Try.prog 45 #[v, .int .i64 t, .slice a n cap] W fun r W' => ∃ v', r = .returned v' ∧ ApX w W' v' (fun z => M z ∨ inA T t n z) (b + n) ∧ ApI W v W' v' := by
  obtain ⟨i0, hi0, y0, y1, y2⟩ := info_parts info_pair
  have HS : Hid (∀ W', Below w.heap.size w W' → Sl W' a n 2 (hdF T Q)) := hs
  have HX : Hid (ApX w W v M b) := h
  clear h hs
  go_enter Try.func45, Try.ntmps45
  go_wp2
  go_loopw [11, 0] (fun x u wr => ∃ k : Nat, k ≤ n ∧ x = .int .i64 k ∧ ApX w wr u (fun z => M z ∨ inA T t k z) (b + k) ∧ ApI W v wr u) (fun x _ _ => n - (intOf x).toNat)
  case atStart => exact ⟨0, Nat.zero_le _, rfl, HX.out.congr (fun z => by simp [inA_zero]) (by omega), ApI.refl _ _⟩
  case round =>
    obtain ⟨k, hk, rfl, hX, hA⟩ := hrel
    have HW : Hid (ApX w wr u0 (fun z => M z ∨ inA T t k z) (b + k) ∧ ApI W v wr u0) := ⟨hX, hA⟩
    clear hX hA HX
    by_cases hlt : k < n
    · have hlt' : (k : Int) < (n : Int) := by omega
      rcases HS.out wr HW.out.1.below with q | ⟨b', off', rfl, hbs', hE'⟩
      · omega
      obtain ⟨c0, c1⟩ := hd_cells hE' hlt
      clear hE'
      obtain ⟨t1, ht1⟩ : ∃ x, x = T k := ⟨_, rfl⟩
      have HT : Hid (t1 = T k) := ht1
      rw [← ht1] at c0
      clear ht1
      generalize Q k = m1 at *
      have hba : Below wr.heap.size wr (wr.alloc (.cells #[.int .i64 t1, .int .i64 m1] 50)) := Go.Joins.below_alloc1 _ _
      have H1 : Hid (ApX w (wr.alloc (.cells #[.int .i64 t1, .int .i64 m1] 50)) u0 (fun z => M z ∨ inA T t k z) (b + k) ∧ ApI W v (wr.alloc (.cells #[.int .i64 t1, .int .i64 m1] 50)) u0) := ⟨HW.out.1.next hba, HW.out.2.next hba⟩
      clear hba
      by_cases hne : t1 = t
      · have HNE : Hid (T k = t) := HT.out.symm.trans hne
        subst hne
        clear HW
        go_wp2
        go_roundw
        case rel => exact ⟨k + 1, by omega, by go_num, H1.out.1.congr (fun z => by rw [inA_no HNE.out]) (by omega), H1.out.2⟩
        case measure => simp [intOf]; omega
      · have HNE : Hid (T k ≠ t) := by show T k ≠ t; rw [← HT.out]; exact hne
        have hne' : (t1 == t) = false := by simpa using hne
        obtain ⟨R, r1, r2, r3, r4⟩ := H1.out.1
        have hzr : w.heap.size ≤ wr.heap.size := HW.out.1.below.size
        have HR : Hid ((wr.alloc (.cells #[.int .i64 t1, .int .i64 m1] 50)).ownsRow w.heap.size 35 2 u0 R.length (cellsP R) ∧ (∀ z, z ∈ R ↔ M z ∨ inA T t k z) ∧ R.length ≤ b + k ∧ Below w.heap.size w (wr.alloc (.cells #[.int .i64 t1, .int .i64 m1] 50)) ∧ ApI W v (wr.alloc (.cells #[.int .i64 t1, .int .i64 m1] 50)) u0) := ⟨r1, r2, r3, r4, H1.out.2⟩
        have hRl : R.length ≤ 1048576 := by omega
        have HN : Hid (∀ j u, ([.int .i64 t, .int .i64 t1] : List Value)[j]? = some u → ((wr.alloc (.cells #[.int .i64 t1, .int .i64 m1] 50)).alloc (.cells #[.int .i64 t, .int .i64 t1] 35)).cell? ((⟨wr.heap.size + 1, 0, none⟩ : Addr).add j) = some u) := by
          have h := cells_new (wr.alloc (.cells #[.int .i64 t1, .int .i64 m1] 50)) [.int .i64 t, .int .i64 t1] 35
          rw [show (wr.alloc (.cells #[.int .i64 t1, .int .i64 m1] 50)).heap.size = wr.heap.size + 1 by simp] at h
          exact h
        clear r1 r2 r3 r4 H1 HW
        go_wp2_with (first
          | (at_builtin; refine wpList_append_own_at _ rfl (.tmp 19) (.tmp 24) 30 rfl w.heap.size 35 i0 (.agg #[.int .i64 0, .int .i64 0]) 2 16 Try.underlying30 hi0 y0 y1 y2 rfl (by decide) u0 R.length (cellsP R) rfl (World.ownsRow.alloc HR.out.1 _) ⟨wr.heap.size + 1, 0, none⟩ 1 1 [.int .i64 t, .int .i64 t1] rfl rfl HN.out (by intro u hu; simp at hu; rcases hu with rfl | rfl <;> rfl) (by unfold maxLen; omega) (by omega) (by simp; omega) ?_; intro v4 w4 hown4 hgrow4 hnil4 hwh4))
        have HF : Hid (ApX w w4 v4 (fun z => M z ∨ inA T t (k + 1) z) (b + (k + 1)) ∧ ApI W v w4 v4) := by
          have hba : Below (wr.alloc (.cells #[.int .i64 t1, .int .i64 m1] 50)).heap.size (wr.alloc (.cells #[.int .i64 t1, .int .i64 m1] 50)) ((wr.alloc (.cells #[.int .i64 t1, .int .i64 m1] 50)).alloc (.cells #[.int .i64 t, .int .i64 t1] 35)) := Go.Joins.below_alloc1 _ _
          refine ⟨⟨R ++ [(t, t1)], ?_, fun z => ?_, ?_, ?_⟩, (HR.out.2.2.2.2.next hba).app hgrow4 hwh4⟩
          · rw [cellsP_snoc, List.length_append]; exact hown4
          · show z ∈ R ++ [(t, t1)] ↔ (M z ∨ inA T t (k + 1) z)
            rw [List.mem_append, HR.out.2.1 z, inA_yes HNE.out, ← HT.out, List.mem_singleton, or_assoc]
          · rw [List.length_append]; have := HR.out.2.2.1; simp; omega
          · exact (below_next HR.out.2.2.2.1 hba).grown hgrow4 (by simp; omega) (fun j hj => (HR.out.1.lt j hj).1)
        clear hown4 hgrow4 hnil4 hwh4 HR
        go_wp2
        go_roundw
        case rel => exact ⟨k + 1, by omega, by go_num, HF.out.1, HF.out.2⟩
        case measure => simp [intOf]; omega
    · have hkn : k = n := by omega
      have hlt' : ¬ (k : Int) < (n : Int) := by omega
      subst hkn
      go_wp2
      go_ret
      exact ⟨u0, rfl, HW.out.1, HW.out.2⟩

theorem ddN_mem {d : Nat → Int × Int} {z : Int × Int} : ∀ {k : Nat}, z ∈ ddN d k ↔ ∃ j, j < k ∧ d j = z
  | 0 => by simp [ddN]
  | k + 1 => by
    by_cases h : 0 < k ∧ d k = d (k - 1)
    · rw [ddN_skip h.1 h.2, ddN_mem (k := k)]
      constructor
      · rintro ⟨j, hj, e⟩; exact ⟨j, by omega, e⟩
      · rintro ⟨j, hj, e⟩
        by_cases q : j = k
        · subst q; exact ⟨j - 1, by omega, h.2.symm.trans e⟩
        · exact ⟨j, by omega, e⟩
    · rw [ddN, if_neg h, List.mem_append, ddN_mem (k := k), List.mem_singleton]
      constructor
      · rintro (⟨j, hj, e⟩ | e)
        · exact ⟨j, by omega, e⟩
        · exact ⟨k, by omega, e.symm⟩
      · rintro ⟨j, hj, e⟩
        by_cases q : j = k
        · subst q; exact Or.inr e.symm
        · exact Or.inl ⟨j, by omega, e⟩
theorem ddN_sort {d : Nat → Int × Int} : ∀ {k : Nat}, (∀ i j, i < j → j < k → ¬ PLt (d j) (d i)) → SortP (ddN d k)
  | 0, _ => List.Pairwise.nil
  | k + 1, h => by
    have ih := ddN_sort (d := d) (k := k) (fun i j hij hj => h i j hij (by omega))
    by_cases q : 0 < k ∧ d k = d (k - 1)
    · rw [ddN_skip q.1 q.2]; exact ih
    · rw [ddN, if_neg q]
      refine List.pairwise_append.2 ⟨ih, List.pairwise_singleton _ _, fun a ha b hb => ?_⟩
      rw [List.mem_singleton] at hb
      subst hb
      obtain ⟨i, hi, rfl⟩ := ddN_mem.1 ha
      rcases PLt.tri (d i) (d k) with r | r | r
      · exact r
      · exfalso
        refine q ⟨by omega, ?_⟩
        have h1 := h (k - 1) k (by omega) (by omega)
        rcases PLt.tri (d k) (d (k - 1)) with s | s | s
        · exact absurd s h1
        · exact s
        · rcases Nat.lt_or_ge i (k - 1) with u | u
          · exact absurd (r ▸ s) (h i (k - 1) u (by omega))
          · have : i = k - 1 := by omega
            rw [← this] at s
            rw [r] at s
            exact s.irr.elim
      · exact absurd r (h i k hi (by omega))
end Go.Proofs.Ytnapgnkhajkbkaa
