/- The contract of latestOf, over an iterator of entries. -/
import Derived.Test.YtiepfdkfadbllaaEnI
import Derived.Test.YtiepfdkfadbllaaLaG
import Derived.Test.YtiepfdkfadbllaaInsE
import Derived.Test.YtiepfdkfadbllaaBsEntry
namespace Go.Proofs.Ytiepfdkfadbllaa
open Go.RowKit Go.Shelf
set_option linter.unusedVariables false
attribute [local go_sem] Oper.semAt_some

def latP (V : Nat → EntryV) (pre : List Nat) : List EntryV := pre.foldl (fun L x => latE L (V x)) []
theorem latP_snoc (V : Nat → EntryV) (pre : List Nat) (x : Nat) : latP V (pre ++ [x]) = latE (latP V pre) (V x) := by simp [latP]
theorem latP_range (V : Nat → EntryV) : ∀ k, latP V (List.range k) = latL V k
  | 0 => rfl
  | k + 1 => by rw [List.range_succ, latP_snoc, latP_range V k, latL]
theorem latP_rise (V : Nat → EntryV) (pre : List Nat) : riseE (latP V pre) := by
  suffices h : ∀ (pre : List Nat) (L : List EntryV), riseE L → riseE (pre.foldl (fun L x => latE L (V x)) L) from h pre [] (fun i hi => absurd hi (by simp))
  intro pre
  induction pre with
  | nil => exact fun L h => h
  | cons x pre ih => exact fun L h => ih _ (latE_rise _ h)
theorem latP_len (V : Nat → EntryV) (pre : List Nat) : (latP V pre).length ≤ pre.length := by
  suffices h : ∀ (pre : List Nat) (L : List EntryV), (pre.foldl (fun L x => latE L (V x)) L).length ≤ L.length + pre.length from by have := h pre []; simpa [latP] using this
  intro pre
  induction pre with
  | nil => exact fun L => by simp
  | cons x pre ih =>
    intro L
    have h1 := ih (latE L (V x))
    have h2 := latE_len L (V x)
    simp only [List.foldl_cons, List.length_cons]; omega
theorem mem_latP {V : Nat → EntryV} {c : EntryV} {pre : List Nat} (h : c ∈ latP V pre) : ∃ i, c = V i := by
  have h' : ∀ (pre : List Nat) (L : List EntryV), (∀ c ∈ L, ∃ i, c = V i) → ∀ c ∈ pre.foldl (fun L x => latE L (V x)) L, ∃ i, c = V i := by
    intro pre
    induction pre with
    | nil => exact fun L h => h
    | cons x pre ih =>
      intro L h
      refine ih _ fun c hc => ?_
      have hc' : c ∈ latE L (V x) := hc
      unfold latE at hc'
      split at hc'
      · exact h c hc'
      · rcases mem_putE hc' with rfl | hc'
        · exact ⟨x, rfl⟩
        · exact h c hc'
  exact h' pre [] (fun c hc => by simp at hc) c h
theorem own_blk {w w' : World} {base : Nat} {e : TypeId} {size : Nat} {v : Value} {n : Nat} {xs : List Value} (h : w.ownsRow base e size v n xs) (hk : ∀ k, v.ownBlock = some k → w'.heap[k]? = w.heap[k]?) : w'.ownsRow base e size v n xs := by
  obtain ⟨h1, h2⟩ := h
  refine ⟨h1, ?_⟩
  rcases h2 with h2 | ⟨b, cap, cur, hv, hb, hh, r⟩
  · exact Or.inl h2
  · exact Or.inr ⟨b, cap, cur, hv, hb, by rw [hk b (by rw [hv]; rfl)]; exact hh, r⟩
theorem own_cells {w : World} {base : Nat} {e : TypeId} {size : Nat} {v : Value} {n : Nat} {xs : List Value} (h : w.ownsRow base e size v n xs) {k : Nat} (hk : v.ownBlock = some k) : ∃ cur, w.heap[k]? = some (.cells cur e (0, 0)) := by
  rcases h.2 with ⟨hv, _⟩ | ⟨b, cap, cur, hv, hb, hh, r⟩
  · rw [hv] at hk; cases hk
  · rw [hv] at hk; cases hk; exact ⟨cur, hh⟩
theorem keeps_below {W W' : World} (h : Below W.heap.size W W') : KeepsOthers W W' := ⟨h.size, fun k o hk _ => (h.block k (Array.getElem?_eq_some_iff.1 hk).1).trans hk⟩
theorem keeps_grown {W W' : World} {base : Nat} {e : TypeId} {size : Nat} {v : Value} {n : Nat} {xs : List Value} (h : W.ownsRow base e size v n xs) (hg : W.grownBy W' v.ownBlock) : KeepsOthers W W' :=
  ⟨hg.size, fun k o hk ho => (hg.block k (Array.getElem?_eq_some_iff.1 hk).1 (fun e' => by
    obtain ⟨cur, hc⟩ := own_cells h e'.symm
    rw [hc] at hk; cases hk; cases ho)).trans hk⟩
/-- What holds between the rounds. -/
def LaI (w : World) (V : Nat → EntryV) (pre : List Nat) (W : World) : Prop :=
  ∃ v, Boxed W w.heap.size 23 v ∧ W.ownsRow (w.heap.size + 1) 33 6 v (latP V pre).length (cellsE (latP V pre)) ∧ Below w.heap.size w W
theorem LaI_own {w : World} {V : Nat → EntryV} {B : Nat} (hB : w.heap.size ≤ B) : OwnFrom B (LaI w V) := by
  intro pre W W' row h hg hr
  obtain ⟨v, hb, ho, hbl⟩ := h
  have hne : ∀ (k : Nat) (cur : Array Value) (t : TypeId), W.heap[k]? = some (.cells cur t (0, 0)) → some k ≠ row := fun k cur t hk e => by
    obtain ⟨_, o, ho', hc⟩ := hr k e.symm
    rw [hk] at ho'; cases ho'; cases hc
  refine ⟨v, hb.kept hg (hne _ _ _ hb), own_blk ho (fun k hk => ?_), hbl.grown hg hbl.size (fun j hj => Nat.le_trans hB (hr j hj).1)⟩
  obtain ⟨cur, hc⟩ := own_cells ho hk
  exact hg.block k (ho.lt k hk).2 (hne k cur _ hc)
theorem own_read {w : World} {base g n cap : Nat} {e : TypeId} {size : Nat} {xs : List Value} (h : w.ownsRow base e size (.slice (some ⟨g, 0, none⟩) n cap) n xs) {j : Nat} (hj : j < xs.length) : w.cell? ⟨g, j, none⟩ = some xs[j]! := by
  rw [World.ownsRow.cellAt h j (by have := h.1; omega)]
  simp [hj]
/-- The frame of a round: the entry in a box of its own. -/
def LaA (w : World) (gf : Nat) (lb : Array Value) (V : Nat → EntryV) (x : Nat) (a' : Act) (W : World) : Prop :=
  ∃ be, w.heap.size < be ∧ W.heap[be]? = some (.cells #[.int .i64 (V x).f0, .string (V x).f1, .string (V x).f2, .int .i64 (V x).f3, .int .i64 (V x).f4, .bool (V x).f5] 33 (0, 0)) ∧
    a' = { tmps := #[.func (.func gf) #[] lb, undef, .slice none 0 0, .pointer (some ⟨w.heap.size, 0, none⟩), .pointer (some ⟨be, 0, none⟩), undef, undef, undef, undef, .func (.func gf) #[] lb, .agg #[.int .i64 (V x).f0, .string (V x).f1, .string (V x).f2, .int .i64 (V x).f3, .int .i64 (V x).f4, .bool (V x).f5], undef, undef, undef, undef, undef, undef, undef, undef, undef, undef, undef, undef, undef, undef, undef, undef, undef, undef, undef, undef, undef, undef, undef, undef, undef, undef, undef, undef, undef, undef, undef, undef], defers := [] }
theorem LaA_own {w : World} {gf : Nat} {lb : Array Value} {V : Nat → EntryV} {x : Nat} {a' : Act} {B : Nat} : OwnFrom B (fun (_ : Unit) W => LaA w gf lb V x a' W) := by
  intro _ W W' row h hg hr
  obtain ⟨be, h1, h2, h3⟩ := h
  exact ⟨be, h1, (hg.block be (Array.getElem?_eq_some_iff.1 h2).1 (fun e => by
    obtain ⟨_, o, ho', hc⟩ := hr be e.symm
    rw [h2] at ho'; cases ho'; cases hc)).trans h2, h3⟩
theorem bx_heap {W : World} {b : Nat} {vs : List Value} {t : TypeId} (h : W.heap[b]? = some (.cells vs.toArray t (0, 0))) : Bx W b vs := by
  refine ⟨fun j hj => ⟨?_, ?_⟩, (Array.getElem?_eq_some_iff.1 h).1⟩
  · simp [World.cell?, h]
  · simp [World.frozen?, h]

set_option maxRecDepth 100000 in
set_option maxHeartbeats 8000000 in
theorem latestOf_in (n : Nat) (hn : 4 ≤ n) (gf : Nat) (lb : Array Value) (eg : ∀ args w, (callFunc gf args).run Try.prog w = .ok (.enter gf args) w) (len : Nat) (hl : len ≤ 1048576) (V : Nat → EntryV) (hgt : ∀ i, goodT (V i).f3 (V i).f4 = true) (w : World)
    (hseq : SeqStopsK Fence.wide (n - 1) Try.prog gf lb (fun x : Nat => #[.agg #[.int .i64 (V x).f0, .string (V x).f1, .string (V x).f2, .int .i64 (V x).f3, .int .i64 (V x).f4, .bool (V x).f5]]) (Below w.heap.size) (fun ys => ys = List.range len) (fun pre => ∃ k, k ≤ len ∧ pre = List.range k) len w) :
    CallsIn Fence.wide n Try.prog 34 #[.func (.func gf) #[] lb] w fun r w' => ∃ v, r = .returned v ∧ w'.ownsRow (w.heap.size + 1) 33 6 v (latL V len).length (cellsE (latL V len)) ∧ Below w.heap.size w w' := by
  have h1 : 1 ≤ n := by omega
  have h3 : 1 ≤ n - 1 - 1 := by omega
  have hmix : Try.prog.follows .mixedOrders = true := by kernel_rfl
  refine callsIn_of_wp_marks Try.func34 rfl trivial ?_ rfl
  simp only [Try.ntmps34, List.size_toArray, List.length_cons, List.length_nil, Nat.reduceAdd, Nat.reduceSub, Array.replicate_succ, Array.replicate_zero, List.push_toArray, List.append_toArray, List.nil_append, List.cons_append]
  gi_wp2
  have bL := Boxed.new w 23 (.slice none 0 0)
  have hB0 : Below w.heap.size w (w.alloc (.cells #[.slice none 0 0] 23)) := Go.Joins.below_alloc1 _ _
  have hsz : (w.alloc (.cells #[.slice none 0 0] 23)).heap.size = w.heap.size + 1 := by simp
  obtain ⟨W0, hW0⟩ : ∃ W0, w.alloc (.cells #[.slice none 0 0] 23) = W0 := ⟨_, rfl⟩
  rw [hW0] at bL hB0 hsz ⊢
  clear hW0
  refine wpIn_rangeFunc_ownH rfl h1 (gf := gf) (lb := lb) rfl trivial eg hseq belowK_t (belowK_b (by omega)) hB0 (fun _ => rfl)
    (LaI w V) (fun _ _ _ => False) (LaI_own (by omega)) (fun c s W W' row h _ _ => h)
    ⟨.slice none 0 0, bL, World.ownsRow_nil _ _ _ _, hB0⟩
    (fun x a' W => LaA w gf lb V x a' W) (fun x a' => LaA_own)
    ?assign ?body ?done ?stop
  case assign =>
    rintro l pre x W Kk hI hK
    obtain ⟨v, hb, ho, hbl⟩ := hI
    have hsW : w.heap.size < W.heap.size := hb.lt
    gi_wp2
    exact hK _ _ ((KeepsOthers.alloc _ _).from _) ((Below.refl _ W).alloc (by omega) _) ⟨v, hb.alloc _, ho.alloc _, hbl.alloc (by omega) _⟩ ⟨W.heap.size, hsW, World.alloc_heap_new W _, rfl⟩
  case body =>
    rintro l pre x a' W hl2 _ ⟨v, hb, ho, hbl⟩ ⟨be, hbe, heb, rfl⟩ hlt
    have hLl := latP_len V pre
    have hwW : w.heap.size < W.heap.size := hb.lt
    have hLr := latP_rise V pre
    have hgL : ∀ q, q < (latP V pre).length → goodT (vE (latP V pre) q).f3 (vE (latP V pre) q).f4 = true := fun q hq => by
      obtain ⟨i, hi⟩ := mem_latP (V := V) (pre := pre) (c := vE (latP V pre) q) (by rw [vE_at hq]; exact List.getElem_mem hq)
      rw [hi]; exact hgt i
    have HNX : Hid (latP V (pre ++ [x]) = latE (latP V pre) (V x)) := latP_snoc V pre x
    generalize latP V pre = L at *
    obtain ⟨la, lc, rfl, hlc, hrow⟩ := SRow.of (F := entryF (vE L)) (c := 6) ho
    have hSl : Sl W la L.length 6 (entryF (vE L)) := hrow.sl
    have cL := hb.cell
    have zL := hb.lt
    have hE := bx_heap (vs := [.int .i64 (V x).f0, .string (V x).f1, .string (V x).f2, .int .i64 (V x).f3, .int .i64 (V x).f4, .bool (V x).f5]) heb
    have e1 := hE.cell 1 rfl
    have ez := hE.2
    have H0 : Hid (Boxed W w.heap.size 23 (.slice la L.length lc) ∧ W.ownsRow (w.heap.size + 1) 33 6 (.slice la L.length lc) L.length (cellsE L) ∧ Below w.heap.size w W ∧ Bx W be [.int .i64 (V x).f0, .string (V x).f1, .string (V x).f2, .int .i64 (V x).f3, .int .i64 (V x).f4, .bool (V x).f5]) := ⟨hb, ho, hbl, hE⟩
    have HG : Hid (riseE L ∧ ∀ q, q < L.length → goodT (vE L q).f3 (vE L q).f4 = true) := ⟨hLr, hgL⟩
    clear hb ho hbl hE heb hrow hLr hgL
    gi_wp2_with fail
    refine ⟨trivial, (CallsIn.inRound l (callsIn_wide.2 (entryPlace_any _ _ _ (vE L) (V x).f1 _ (by omega) hSl))).mono ?_⟩
    rintro e w1 ⟨p, f, rfl, hp, hb1⟩
    have hpl : p ≤ L.length := hp.1
    have H1 : Hid (Boxed w1 w.heap.size 23 (.slice la L.length lc) ∧ w1.ownsRow (w.heap.size + 1) 33 6 (.slice la L.length lc) L.length (cellsE L) ∧ Below w.heap.size w w1 ∧ Bx w1 be [.int .i64 (V x).f0, .string (V x).f1, .string (V x).f2, .int .i64 (V x).f3, .int .i64 (V x).f4, .bool (V x).f5] ∧ Placed (fun q => (vE L q).f1) L.length (V x).f1 p f ∧ KeepsOthers W w1 ∧ Below W.heap.size W w1) :=
      ⟨H0.out.1.kept (grw_none hb1) (by simp), own_blk H0.out.2.1 (fun k hk => hb1.block k (H0.out.2.1.lt k hk).2), H0.out.2.2.1.trans (hb1.mono (by omega)), H0.out.2.2.2.next hb1, hp, keeps_below hb1, hb1⟩
    clear hp hb1 hSl cL zL e1 ez H0
    have cL := H1.out.1.cell
    have zL := H1.out.1.lt
    have e0 := (H1.out.2.2.2.1).cell 0 rfl; have e1 := (H1.out.2.2.2.1).cell 1 rfl; have e2 := (H1.out.2.2.2.1).cell 2 rfl; have e3 := (H1.out.2.2.2.1).cell 3 rfl; have e4 := (H1.out.2.2.2.1).cell 4 rfl; have e5 := (H1.out.2.2.2.1).cell 5 rfl; have ez := (H1.out.2.2.2.1).2
    cases f
    · gi_wp2_with fail
      refine ⟨trivial, (CallsIn.inRound l (callsIn_wide.2 (insert_E (w.heap.size + 1) L.length p w1.heap.size (.slice la L.length lc) (cellsE L) [.int .i64 (V x).f0, .string (V x).f1, .string (V x).f2, .int .i64 (V x).f3, .int .i64 (V x).f4, .bool (V x).f5] 33 _ hpl (by omega) (World.ownsRow.alloc H1.out.2.1 _) (cellsE_one' L) (heap_alloc_new w1 _) rfl (by intro u hu; simp at hu; rcases hu with rfl | rfl | rfl | rfl | rfl | rfl <;> rfl) (by simp; omega) (fun e => by have := (H1.out.2.1.lt _ e).2; omega)))).mono ?_⟩
      rintro r w3 ⟨v', rfl, ho3, hgr3, hwh3⟩
      rw [cellsE_put L (V x) hpl] at ho3
      have hln : L.length + 1 = (L.take p ++ V x :: L.drop p).length := by simp only [List.length_append, List.length_cons, List.length_take, List.length_drop]; omega
      rw [hln] at ho3
      obtain ⟨Lx, hLx⟩ : ∃ Lx, Lx = L.take p ++ V x :: L.drop p := ⟨_, rfl⟩
      rw [← hLx] at ho3
      have HLX : Hid (Lx = L.take p ++ V x :: L.drop p) := hLx
      clear hLx hln
      obtain ⟨a3, c3, rfl, _, _⟩ := SRow.of (F := entryF (vE Lx)) (c := 6) ho3
      have hne : some w.heap.size ≠ (Value.slice la L.length lc).ownBlock := fun e => by have := (H1.out.2.1.lt _ e.symm).1; omega
      have hb3 := (H1.out.1.alloc (.cells #[.int .i64 (V x).f0, .string (V x).f1, .string (V x).f2, .int .i64 (V x).f3, .int .i64 (V x).f4, .bool (V x).f5] 33)).kept hgr3 hne
      have H3 : Hid (KeepsFrom W0.heap.size W (w3.setCell ⟨w.heap.size, 0, none⟩ (.slice a3 Lx.length c3)) ∧ Below w.heap.size W (w3.setCell ⟨w.heap.size, 0, none⟩ (.slice a3 Lx.length c3)) ∧ LaI w V (pre ++ [x]) (w3.setCell ⟨w.heap.size, 0, none⟩ (.slice a3 Lx.length c3))) := by
        have hrg : ∀ j, (Value.slice la L.length lc).ownBlock = some j → w.heap.size ≤ j := fun j hj => by have := (H1.out.2.1.lt j hj).1; omega
        refine ⟨((((H1.out.2.2.2.2.2.1.trans (KeepsOthers.alloc _ _)).trans (keeps_grown (H1.out.2.1.alloc _) hgr3)).trans (KeepsOthers.setCell _ _ _)).from _), ?_, ?_⟩
        · exact (((H1.out.2.2.2.2.2.2.mono (by have := H1.out.2.2.2.2.2.2.size; omega)).alloc (by omega) _).grown hgr3 (by simp; omega) hrg).setCell (p := ⟨w.heap.size, 0, none⟩) (Nat.le_refl _) _
        · refine ⟨_, hb3.set _, ?_, ((H1.out.2.2.1.alloc (by omega) _).grown hgr3 (by simp; omega) hrg).setCell (p := ⟨w.heap.size, 0, none⟩) (Nat.le_refl _) _⟩
          rw [HNX.out, latE_miss HG.out.1 H1.out.2.2.2.2.1, ← HLX.out]
          exact own_blk ho3 (fun k hk => Below.heap_setCell _ _ _ _ (by have := (ho3.lt k hk).1; show k ≠ w.heap.size; omega))
      have b0 := hb3.cell
      have b1 := hb3.frozen
      have b2 := hb3.lt
      clear ho3 hgr3 hwh3 hb3 hne cL zL e0 e1 e2 e3 e4 e5 ez H1
      gi_wp2
      exact H3.out
    · have hpn : p < L.length := (H1.out.2.2.2.2.1.2.1 rfl).1
      have hpn' : (p : Int) < (L.length : Int) := by omega
      obtain ⟨g, cap', e⟩ := Go.Joins.ownsRow_form H1.out.2.1 (by omega)
      simp only [Value.slice.injEq, true_and] at e
      obtain ⟨rfl, rfl⟩ := e
      have hgz := H1.out.2.1.lt g rfl
      have hgw := hgz.2
      obtain ⟨_, _, ev, _, hrow⟩ := SRow.of (F := entryF (vE L)) (c := 6) H1.out.2.1
      simp only [Value.slice.injEq, true_and] at ev
      obtain ⟨rfl, rfl⟩ := ev
      rcases hrow.sl with h | ⟨b', off', e', _, hEl⟩
      · omega
      simp only [Option.some.injEq, Addr.mk.injEq, and_true] at e'
      obtain ⟨rfl, rfl⟩ := e'
      obtain ⟨r0, r1, r2, r3, r4, r5⟩ := entry_cells hEl hpn
      rw [Nat.zero_add] at r0 r1 r2 r3 r4 r5
      clear hEl hrow
      obtain ⟨c, hc⟩ : ∃ c, c = cmpT (vE L p).f3 (vE L p).f4 (V x).f3 (V x).f4 := ⟨_, rfl⟩
      have HT : Hid (∀ W', Calls Try.prog 55 #[.agg #[.int .i64 (vE L p).f3, .int .i64 (vE L p).f4, .bool (vE L p).f5], .agg #[.int .i64 (V x).f3, .int .i64 (V x).f4, .bool (V x).f5]] W' fun r w' => r = .returned (.tuple #[.int .i64 c, .bool true]) ∧ Below W'.heap.size W' w') := fun W' => by rw [hc]; exact tidCmp_yes _ _ _ _ _ _ W' (HG.out.2 p hpn) (hgt x)
      have HCc : Hid (c = cmpT (vE L p).f3 (vE L p).f4 (V x).f3 (V x).f4) := hc
      clear hc
      gi_wp2
      have h55 : Fence.wide.fn 55 := trivial
      refine Code.wpIn_mono (Q := fun e a' w' => e = .normal ∧ a' = { tmps := #[.func (.func gf) #[] lb, undef, .slice none 0 0, .pointer (some ⟨w.heap.size, 0, none⟩), .pointer (some ⟨be, 0, none⟩), .int .i64 (p : Int), .bool true, .int .i64 c, .bool true, .func (.func gf) #[] lb, .agg #[.int .i64 (V x).f0, .string (V x).f1, .string (V x).f2, .int .i64 (V x).f3, .int .i64 (V x).f4, .bool (V x).f5], .tuple #[.int .i64 (p : Int), .bool true], .slice (some ⟨g, 0, none⟩) L.length lc, .pointer (some ⟨be, 1, none⟩), .string (V x).f1, .tuple #[.int .i64 (p : Int), .bool true], .int .i64 (p : Int), .bool true, .bool true, .bool false, undef, undef, undef, undef, undef, .tuple #[.int .i64 c, .bool true], .slice (some ⟨g, 0, none⟩) L.length lc, .int .i64 (p : Int), .pointer (some ⟨g, p * 6, none⟩), .pointer (some ⟨g, p * 6 + 3, none⟩), .agg #[.int .i64 (vE L p).f3, .int .i64 (vE L p).f4, .bool (vE L p).f5], .pointer (some ⟨be, 3, none⟩), .agg #[.int .i64 (V x).f3, .int .i64 (V x).f4, .bool (V x).f5], .tuple #[.int .i64 c, .bool true], .int .i64 c, .bool true, undef, undef, undef, undef, undef, undef, undef], defers := [] } ∧ Below w1.drew.heap.size w1.drew w') ?cont ?reg
      case reg =>
        gi_region_with_o (gi_at_call 55; refine (CallsIn.inRound l (callsIn_wide.2 (HT.out _))).mono ?_; rintro e w4 ⟨rfl, hb4⟩)
        all_goals exact ⟨rfl, rfl, hb4⟩
      case cont =>
        rintro e a' w4 ⟨rfl, rfl, hb4⟩
        have hb41 : Below w1.heap.size w1 w4 := ((Below.refl _ w1).drew).trans hb4
        have H4 : Hid (Boxed w4 w.heap.size 23 (.slice (some ⟨g, 0, none⟩) L.length lc) ∧ w4.ownsRow (w.heap.size + 1) 33 6 (.slice (some ⟨g, 0, none⟩) L.length lc) L.length (cellsE L) ∧ Below w.heap.size w w4 ∧ Bx w4 be [.int .i64 (V x).f0, .string (V x).f1, .string (V x).f2, .int .i64 (V x).f3, .int .i64 (V x).f4, .bool (V x).f5] ∧ KeepsOthers W w4 ∧ Below w.heap.size W w4 ∧ Placed (fun q => (vE L q).f1) L.length (V x).f1 p true) :=
          ⟨H1.out.1.kept (grw_none hb41) (by simp), own_blk H1.out.2.1 (fun k hk => hb41.block k (H1.out.2.1.lt k hk).2), H1.out.2.2.1.trans (hb41.mono (by omega)), H1.out.2.2.2.1.next hb41, H1.out.2.2.2.2.2.1.trans (keeps_below hb41), (H1.out.2.2.2.2.2.2.mono (by omega)).trans (hb41.mono (by have := H1.out.2.2.2.2.2.2.size; omega)), H1.out.2.2.2.2.1⟩
        clear hb4 hb41 cL zL e0 e1 e2 e3 e4 e5 ez r0 r1 r2 r3 r4 r5 H1 HT hgw
        by_cases hcl : c < 0
        · have cL := H4.out.1.cell
          have zL := H4.out.1.lt
          have e0 := (H4.out.2.2.2.1).cell 0 rfl; have e1 := (H4.out.2.2.2.1).cell 1 rfl; have e2 := (H4.out.2.2.2.1).cell 2 rfl; have e3 := (H4.out.2.2.2.1).cell 3 rfl; have e4 := (H4.out.2.2.2.1).cell 4 rfl; have e5 := (H4.out.2.2.2.1).cell 5 rfl; have ez := (H4.out.2.2.2.1).2
          have hgw := (H4.out.2.1.lt g rfl).2
          have o0 := H4.out.2.1
          have q0 : w4.cell? ⟨g, p * 6 + 0, none⟩ = some (cellsE L)[p * 6 + 0]! := own_read o0 (by rw [cellsE_len]; omega)
          have q1 : w4.cell? ⟨g, p * 6 + 1, none⟩ = some (cellsE L)[p * 6 + 1]! := own_read o0 (by rw [cellsE_len]; omega)
          have q2 : w4.cell? ⟨g, p * 6 + 2, none⟩ = some (cellsE L)[p * 6 + 2]! := own_read o0 (by rw [cellsE_len]; omega)
          have q3 : w4.cell? ⟨g, p * 6 + 3, none⟩ = some (cellsE L)[p * 6 + 3]! := own_read o0 (by rw [cellsE_len]; omega)
          have q4 : w4.cell? ⟨g, p * 6 + 4, none⟩ = some (cellsE L)[p * 6 + 4]! := own_read o0 (by rw [cellsE_len]; omega)
          have q5 : w4.cell? ⟨g, p * 6 + 5, none⟩ = some (cellsE L)[p * 6 + 5]! := own_read o0 (by rw [cellsE_len]; omega)
          have y0 := World.ownsRow.frozenAt o0 (p * 6 + 0)
          have y1 := World.ownsRow.frozenAt o0 (p * 6 + 1)
          have y2 := World.ownsRow.frozenAt o0 (p * 6 + 2)
          have y3 := World.ownsRow.frozenAt o0 (p * 6 + 3)
          have y4 := World.ownsRow.frozenAt o0 (p * 6 + 4)
          have y5 := World.ownsRow.frozenAt o0 (p * 6 + 5)
          rw [Nat.add_zero] at q0 y0
          have HW : Hid (KeepsFrom W0.heap.size W ((((((w4.setCell ⟨g, p * 6, none⟩ (.int .i64 (V x).f0)).setCell ⟨g, p * 6 + 1, none⟩ (.string (V x).f1)).setCell ⟨g, p * 6 + 2, none⟩ (.string (V x).f2)).setCell ⟨g, p * 6 + 3, none⟩ (.int .i64 (V x).f3)).setCell ⟨g, p * 6 + 4, none⟩ (.int .i64 (V x).f4)).setCell ⟨g, p * 6 + 5, none⟩ (.bool (V x).f5)) ∧ Below w.heap.size W ((((((w4.setCell ⟨g, p * 6, none⟩ (.int .i64 (V x).f0)).setCell ⟨g, p * 6 + 1, none⟩ (.string (V x).f1)).setCell ⟨g, p * 6 + 2, none⟩ (.string (V x).f2)).setCell ⟨g, p * 6 + 3, none⟩ (.int .i64 (V x).f3)).setCell ⟨g, p * 6 + 4, none⟩ (.int .i64 (V x).f4)).setCell ⟨g, p * 6 + 5, none⟩ (.bool (V x).f5)) ∧ LaI w V (pre ++ [x]) ((((((w4.setCell ⟨g, p * 6, none⟩ (.int .i64 (V x).f0)).setCell ⟨g, p * 6 + 1, none⟩ (.string (V x).f1)).setCell ⟨g, p * 6 + 2, none⟩ (.string (V x).f2)).setCell ⟨g, p * 6 + 3, none⟩ (.int .i64 (V x).f3)).setCell ⟨g, p * 6 + 4, none⟩ (.int .i64 (V x).f4)).setCell ⟨g, p * 6 + 5, none⟩ (.bool (V x).f5))) := by
            have o1 := (World.ownsRow.stored o0 (p * 6) (.int .i64 (V x).f0)).1
            have o2 := (World.ownsRow.stored o1 (p * 6 + 1) (.string (V x).f1)).1
            have o3 := (World.ownsRow.stored o2 (p * 6 + 2) (.string (V x).f2)).1
            have o4 := (World.ownsRow.stored o3 (p * 6 + 3) (.int .i64 (V x).f3)).1
            have o5 := (World.ownsRow.stored o4 (p * 6 + 4) (.int .i64 (V x).f4)).1
            have o6 := (World.ownsRow.stored o5 (p * 6 + 5) (.bool (V x).f5)).1
            have hne : ∀ q u (W : World), Boxed W w.heap.size 23 (.slice (some ⟨g, 0, none⟩) L.length lc) → Boxed (W.setCell ⟨g, q, none⟩ u) w.heap.size 23 (.slice (some ⟨g, 0, none⟩) L.length lc) := fun q u W h => (Below.heap_setCell _ _ _ _ (by show w.heap.size ≠ g; omega)).trans h
            refine ⟨?_, ?_, ⟨_, hne _ _ _ (hne _ _ _ (hne _ _ _ (hne _ _ _ (hne _ _ _ (hne _ _ _ H4.out.1))))), ?_, ?_⟩⟩
            · exact ((((((H4.out.2.2.2.2.1.trans (KeepsOthers.setCell _ _ _)).trans (KeepsOthers.setCell _ _ _)).trans (KeepsOthers.setCell _ _ _)).trans (KeepsOthers.setCell _ _ _)).trans (KeepsOthers.setCell _ _ _)).trans (KeepsOthers.setCell _ _ _)).from _
            · repeat (refine Below.setCell ?_ (by dsimp only; omega) _)
              exact H4.out.2.2.2.2.2.1
            · have e6 := cellsE_set L (V x) hpn
              rw [HNX.out, latE_new HG.out.1 H4.out.2.2.2.2.2.2 (by rw [← HCc.out]; exact hcl), ← e6]
              have hlen : (L.take p ++ V x :: L.drop (p + 1)).length = L.length := by simp only [List.length_append, List.length_cons, List.length_take, List.length_drop]; omega
              rw [e6, hlen, ← e6]
              exact o6
            · repeat (refine Below.setCell ?_ (by dsimp only; omega) _)
              exact H4.out.2.2.1
          clear o0 H4
          gi_wp2
          exact HW.out
        · have HW : Hid (KeepsFrom (w.heap.size + 1) W w4 ∧ Below w.heap.size W w4 ∧ LaI w V (pre ++ [x]) w4) := ⟨H4.out.2.2.2.2.1.from _, H4.out.2.2.2.2.2.1, ⟨_, H4.out.1, by rw [HNX.out, latE_old HG.out.1 H4.out.2.2.2.2.2.2 (by rw [← HCc.out]; exact hcl)]; exact H4.out.2.1, H4.out.2.2.1⟩⟩
          gi_wp2
          exact HW.out
  case done =>
    rintro D ys W hD rfl hI hK
    obtain ⟨v, hb, ho, hbl⟩ := LaI_own (B := w.heap.size) (Nat.le_refl _) _ _ _ (some D) hI (grownBy_putObj' W D (.deferred none)) (fun r e => by cases e; exact ⟨by omega, _, hK, rfl⟩)
    obtain ⟨v2, hb2, ho2, hbl2⟩ := hI
    have ev : v = v2 := by
      have h := hb.symm.trans (hb2.kept (grownBy_putObj' W D (.deferred none)) (fun e => by cases e; omega))
      simpa using h
    subst ev
    rw [latP_range] at ho
    have cL := hb2.cell
    have zL := hb2.lt
    gi_wp2
    refine ⟨by simp, .inl ⟨_, _, rfl, run_takeDeferred hK, ?_⟩⟩
    exact ⟨v, by simp [results, Try.f34, go_sem], v, rfl, ho, hbl⟩
  case stop =>
    rintro D c pre W hD _ h hK
    exact h.elim
end Go.Proofs.Ytiepfdkfadbllaa
