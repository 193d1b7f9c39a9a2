/- The draw of events: the cursor's events. What comes out is said as little as may be: some events, whose messages are small numbers. -/
import Derived.Test.YtjophhiccbkpjaaDrU
import Derived.Test.YtjophhiccbkpjaaLamW
import Derived.Test.YtjophhiccbkpjaaBx
import Derived.Test.YtjophhiccbkpjaaRg
import Derived.Deep.AppendLies
namespace Go.Proofs.Ytjophhiccbkpjaa
open Go.RowKit
set_option linter.unusedVariables false

theorem own_kp {w w' : World} {base : Nat} {e : TypeId} {size : Nat} {v : Value} {n : Nat} {xs : List Value} (h : w.ownsRow base e size v n xs) (hb : Below w.heap.size w w') : w'.ownsRow base e size v n xs := by
  obtain ⟨h1, h2⟩ := h
  refine ⟨h1, ?_⟩
  rcases h2 with h2 | ⟨g, cap, cur, hv, hgb, hh, r⟩
  · exact Or.inl h2
  · have hlt : g < w.heap.size := by
      rcases Nat.lt_or_ge g w.heap.size with q | q
      · exact q
      · rw [Array.getElem?_eq_none q] at hh; cases hh
    exact Or.inr ⟨g, cap, cur, hv, hgb, by rw [hb.block g hlt]; exact hh, r⟩
theorem own_st {w : World} {base : Nat} {e : TypeId} {size : Nat} {v : Value} {n g q : Nat} {xs : List Value} {u : Value} (h : w.ownsRow base e size v n xs) (hg : ∀ b, v.ownBlock = some b → b ≠ g) : (w.setCell ⟨g, q, none⟩ u).ownsRow base e size v n xs := by
  refine ⟨h.1, ?_⟩
  rcases h.2 with h | ⟨b, cap, cur, hv, hb, hh, r⟩
  · exact Or.inl h
  · exact Or.inr ⟨b, cap, cur, hv, hb, by rw [Below.heap_setCell _ _ _ _ (hg b (by rw [hv]; rfl))]; exact hh, r⟩
theorem own_gr {w w' : World} {base : Nat} {e : TypeId} {size : Nat} {v : Value} {n : Nat} {xs : List Value} {row : Option Nat} (h : w.ownsRow base e size v n xs) (hg : w.grownBy w' row) (hne : ∀ k, v.ownBlock = some k → row ≠ some k) : w'.ownsRow base e size v n xs :=
  h.kept hg (by
    cases hv : v.ownBlock with
    | none => exact Or.inl rfl
    | some k => exact Or.inr (fun e => hne k hv e.symm))
theorem Bx.gr {w w' : World} {g : Nat} {vs : List Value} {row : Option Nat} (h : Bx w g vs) (hg : w.grownBy w' row) (hne : row ≠ some g) : Bx w' g vs := by
  have e := hg.block g h.2 (fun q => hne q.symm)
  exact ⟨fun j hj => ⟨(World.cell?_of_block (a := ⟨g, j, none⟩) e).trans (h.1 j hj).1, (World.frozen?_of_block (a := ⟨g, j, none⟩) e).trans (h.1 j hj).2⟩, Nat.lt_of_lt_of_le h.2 hg.size⟩
theorem Drew.alloc {w w' : World} {g : Nat} {a : Option Addr} {n cap : Nat} {X : Nat → Int} {t : Nat} (h : Drew g a n cap X t w w') (o : Obj) : Drew g a n cap X t w (w'.alloc o) := ⟨h.1.next (Go.Joins.below_alloc1 _ _), h.2.alloc _⟩
theorem Drew.grown {w w' w'' : World} {g : Nat} {a : Option Addr} {n cap : Nat} {X : Nat → Int} {t : Nat} {row : Option Nat} (h : Drew g a n cap X t w w') (hg : w'.grownBy w'' row) (hgw : g < w.heap.size) (hne : ∀ j, row = some j → w.heap.size ≤ j) : Drew g a n cap X t w w'' := by
  refine ⟨h.1.grown hg (fun j hj => by have := hne j hj; omega), ?_⟩
  exact ⟨hg.os.trans h.2.1, hg.tape.trans h.2.2.1, hg.output.trans h.2.2.2.1, Nat.le_trans h.2.2.2.2.1 hg.size, fun k hk hx => (hg.block k (Nat.lt_of_lt_of_le hk h.2.2.2.2.1) (fun e => by have := hne k e.symm; omega)).trans (h.2.2.2.2.2 k hk hx)⟩
/-- A list of k events, of m numbers, that is being built. -/
def EvIn (w : World) (base : Nat) (v : Value) (k : Nat) : Prop := ∃ (K P M : Nat → Int), w.ownsRow base 49 3 v k (cellsL (evF K P M) 3 k) ∧ ∀ i, i < k → 0 ≤ M i ∧ M i ≤ 1000
def InIn (w : World) (base : Nat) (v : Value) (m : Nat) : Prop := ∃ (O : Nat → Int), w.ownsRow base 3 1 v m (cellsL (intF O) 1 m) ∧ ∀ i, i < m → 0 ≤ O i ∧ O i ≤ 1000
theorem EvIn.snoc {w : World} {base : Nat} {v : Value} {k : Nat} {K P M : Nat → Int} {x y z : Int} (h : w.ownsRow base 49 3 v (k + 1) (cellsL (evF K P M) 3 k ++ [.int .i64 x, .int .i64 y, .int .i64 z])) (hM : ∀ i, i < k → 0 ≤ M i ∧ M i ≤ 1000) (hz : 0 ≤ z ∧ z ≤ 1000) : EvIn w base v (k + 1) := by
  refine ⟨fun i => if i < k then K i else x, fun i => if i < k then P i else y, fun i => if i < k then M i else z, ?_, ?_⟩
  · have e1 : cellsL (evF (fun i => if i < k then K i else x) (fun i => if i < k then P i else y) (fun i => if i < k then M i else z)) 3 (k + 1) = cellsL (evF K P M) 3 k ++ [.int .i64 x, .int .i64 y, .int .i64 z] := by
      rw [cellsL, cellsL_congr (G := evF K P M) (fun i hi j hj => by simp [evF, hi])]
      congr 1
      simp [evF, List.range_succ]
    rw [e1]; exact h
  · intro i hi
    by_cases h1 : i < k
    · simp only [h1, if_true]; exact hM i h1
    · simp only [h1, if_false]; exact hz
theorem InIn.snoc {w : World} {base : Nat} {v : Value} {k : Nat} {O : Nat → Int} {x : Int} (h : w.ownsRow base 3 1 v (k + 1) (cellsL (intF O) 1 k ++ [.int .i64 x])) (hO : ∀ i, i < k → 0 ≤ O i ∧ O i ≤ 1000) (hx : 0 ≤ x ∧ x ≤ 1000) : InIn w base v (k + 1) := by
  refine ⟨fun i => if i < k then O i else x, ?_, ?_⟩
  · have e1 : cellsL (intF (fun i => if i < k then O i else x)) 1 (k + 1) = cellsL (intF O) 1 k ++ [.int .i64 x] := by
      rw [cellsL, cellsL_congr (G := intF O) (fun i hi j hj => by simp [intF, hi])]
      congr 1
      simp [intF]
    rw [e1]; exact h
  · intro i hi
    by_cases h1 : i < k
    · simp only [h1, if_true]; exact hO i h1
    · simp only [h1, if_false]; exact hx
theorem InIn.of {w : World} {base : Nat} {v : Value} {xs : List Int} (h : w.ownsRow base 3 1 v xs.length (xs.map (Value.int .i64))) (hx : ∀ x, x ∈ xs → 0 ≤ x ∧ x ≤ 1000) : InIn w base v xs.length := by
  refine ⟨fun i => xs.getD i 0, ?_, fun i hi => hx _ (by simp [List.getD_eq_getElem?_getD, hi])⟩
  have e : cellsL (intF fun i => xs.getD i 0) 1 xs.length = xs.map (Value.int .i64) := by
    apply List.ext_getElem?
    intro k
    rcases Nat.lt_or_ge k xs.length with hk | hk
    · have := cellsL_at (intF fun i => xs.getD i 0) 1 xs.length k 0 hk (by omega)
      rw [Nat.mul_one, Nat.add_zero] at this
      rw [this]; simp [intF, hk]
    · rw [List.getElem?_eq_none (by rw [cellsL_len]; omega), List.getElem?_eq_none (by simpa using hk)]
  rw [e]; exact h
/-- What the loop holds: the events, the open messages, the cursor. -/
def EvH (W w : World) (g : Nat) (a : Option Addr) (n cap : Nat) (X : Nat → Int) (t : Nat) (v3 : Value) (k : Nat) (v4 : Value) (m : Nat) : Prop :=
  EvIn W w.heap.size v3 k ∧ InIn W w.heap.size v4 m ∧ (∀ b, v3.ownBlock = some b → v4.ownBlock ≠ some b) ∧ Drew g a n cap X t w W
section
variable {W W' w : World} {g : Nat} {a : Option Addr} {n cap : Nat} {X : Nat → Int} {t t' : Nat} {v3 v4 v5 : Value} {k m m' : Nat}
theorem EvH.lt3 (h : EvH W w g a n cap X t v3 k v4 m) : ∀ b, v3.ownBlock = some b → w.heap.size ≤ b ∧ b < W.heap.size := by
  obtain ⟨⟨K, P, M, ho, _⟩, _⟩ := h; exact ho.lt
theorem EvH.lt4 (h : EvH W w g a n cap X t v3 k v4 m) : ∀ b, v4.ownBlock = some b → w.heap.size ≤ b ∧ b < W.heap.size := by
  obtain ⟨_, ⟨O, ho, _⟩, _⟩ := h; exact ho.lt
theorem EvH.draw (h : EvH W w g a n cap X t v3 k v4 m) (hd : Drew g a n cap X t' W W') (hg : g < w.heap.size) : EvH W' w g a n cap X t' v3 k v4 m := by
  obtain ⟨⟨K, P, M, ho, hM⟩, ⟨O, hq, hO⟩, hx, hD⟩ := h
  exact ⟨⟨K, P, M, own_trn ho hd.2 hg, hM⟩, ⟨O, own_trn hq hd.2 hg, hO⟩, hx, hD.trans hd⟩
theorem EvH.alloc (h : EvH W w g a n cap X t v3 k v4 m) (o : Obj) : EvH (W.alloc o) w g a n cap X t v3 k v4 m := by
  obtain ⟨⟨K, P, M, ho, hM⟩, ⟨O, hq, hO⟩, hx, hD⟩ := h
  exact ⟨⟨K, P, M, ho.alloc _, hM⟩, ⟨O, hq.alloc _, hO⟩, hx, hD.alloc _⟩
theorem EvH.next (h : EvH W w g a n cap X t v3 k v4 m) (hb : Below W.heap.size W W') : EvH W' w g a n cap X t v3 k v4 m := by
  obtain ⟨⟨K, P, M, ho, hM⟩, ⟨O, hq, hO⟩, hx, hD⟩ := h
  exact ⟨⟨K, P, M, own_kp ho hb, hM⟩, ⟨O, own_kp hq hb, hO⟩, hx, ⟨hD.1.next hb, hD.2.next hb⟩⟩
theorem EvH.up (h : EvH W w g a n cap X t v3 k v4 m) (ht : t ≤ t') : EvH W w g a n cap X t' v3 k v4 m := ⟨h.1, h.2.1, h.2.2.1, h.2.2.2.up ht⟩
/-- A store into a block that is neither list's. -/
theorem EvH.put {bx q : Nat} {u : Value} (h : EvH W w g a n cap X t v3 k v4 m) (hg : g < w.heap.size) (hb : w.heap.size ≤ bx) (h3 : ∀ b, v3.ownBlock = some b → b ≠ bx) (h4 : ∀ b, v4.ownBlock = some b → b ≠ bx) : EvH (W.setCell ⟨bx, q, none⟩ u) w g a n cap X t v3 k v4 m := by
  obtain ⟨⟨K, P, M, ho, hM⟩, ⟨O, hq, hO⟩, hx, hD⟩ := h
  exact ⟨⟨K, P, M, own_st ho h3, hM⟩, ⟨O, own_st hq h4, hO⟩, hx, hD.out hg hb u⟩
/-- The open messages' list has grown. -/
theorem EvH.open4 {w4 : World} (h : EvH W w g a n cap X t v3 k v4 m) (hg : g < w.heap.size) (hgr : W.grownBy w4 v4.ownBlock) (hi : InIn w4 w.heap.size v5 m') (hwh : v5.ownBlock = v4.ownBlock ∨ v5.ownBlock = some W.heap.size) : EvH w4 w g a n cap X t v3 k v5 m' := by
  have l3 := h.lt3
  have l4 := h.lt4
  obtain ⟨⟨K, P, M, ho, hM⟩, _, hx, hD⟩ := h
  refine ⟨⟨K, P, M, own_gr ho hgr (fun b hb => hx b hb), hM⟩, hi, fun b hb e => ?_, hD.grown hgr hg (fun j hj => (l4 j hj).1)⟩
  rcases hwh with q | q
  · exact hx b hb (q ▸ e)
  · rw [q] at e; cases e; have := (l3 _ hb).2; omega
/-- The events' list has grown. -/
theorem EvH.list3 {w4 : World} (h : EvH W w g a n cap X t v3 k v4 m) (hg : g < w.heap.size) (hgr : W.grownBy w4 v3.ownBlock) (hi : EvIn w4 w.heap.size v5 m') (hwh : v5.ownBlock = v3.ownBlock ∨ v5.ownBlock = some W.heap.size) : EvH w4 w g a n cap X t v5 m' v4 m := by
  have l3 := h.lt3
  have l4 := h.lt4
  obtain ⟨_, ⟨O, hq, hO⟩, hx, hD⟩ := h
  refine ⟨hi, ⟨O, own_gr hq hgr (fun b hb e => hx b e hb), hO⟩, fun b hb e => ?_, hD.grown hgr hg (fun j hj => (l3 j hj).1)⟩
  rcases hwh with q | q
  · exact hx b (q ▸ hb) e
  · rw [q] at hb; cases hb; have := (l4 _ e).2; omega
/-- The open messages' list lies in a new row. -/
theorem EvH.swap {W2 W3 : World} {o : Obj} {v1 v2 : Value} (h : EvH W w g a n cap X t v3 k v4 m) (hg : g < w.heap.size) (hz : w.heap.size ≤ W.heap.size) (g1 : (W.alloc o).grownBy W2 (some W.heap.size)) (w1 : v1.ownBlock = some W.heap.size ∨ v1.ownBlock = some (W.heap.size + 1)) (g2 : W2.grownBy W3 v1.ownBlock) (w2 : v2.ownBlock = v1.ownBlock ∨ v2.ownBlock = some W2.heap.size) (hi : InIn W3 w.heap.size v2 m') : EvH W3 w g a n cap X t v3 k v2 m' := by
  have l3 := h.lt3
  have hz2 := g1.size
  rw [World.size_alloc] at hz2
  obtain ⟨⟨K, P, M, ho, hM⟩, _, hx, hD⟩ := h
  refine ⟨⟨K, P, M, own_gr (own_gr (ho.alloc _) g1 (fun b hb e => by cases e; have := (l3 _ hb).2; omega)) g2 (fun b hb e => ?_), hM⟩, hi, fun b hb e => ?_, ((hD.alloc _).grown g1 hg (fun j hj => by cases hj; omega)).grown g2 hg (fun j hj => ?_)⟩
  · have := (l3 b hb).2
    rcases w1 with q | q <;> · rw [q] at e; cases e; omega
  · have := (l3 b hb).2
    rcases w2 with q | q
    · rw [q] at e
      rcases w1 with q | q <;> · rw [q] at e; cases e; omega
    · rw [q] at e; cases e; omega
  · rcases w1 with q | q <;> · rw [q] at hj; cases hj; omega
end
theorem wp_append_any {P : Program} (w : World) {o : Oper} {a : Act} {K : Act → World → Prop} {Q : Exit → Act → World → Prop} (s x : Operand) (t : TypeId)
    (ho : o.op = .call { callee := .builtin .append, args := #[s, x], argTypes := #[t, t] })
    (base : Nat) (e : TypeId) (i : TypeInfo) (z : Value) (size bytes : Nat) (ht : P.underlying t = some (.slice e)) (hi : P.info? e = some i) (hz : i.zero = some z)
    (hsize : i.size = size) (hby : i.bytes = bytes) (hzs : z.cells.size = size) (hsz : 0 < size)
    (v : Value) (n : Nat) (xs : List Value) (hs : a.eval s = v) (hown : w.ownsRow base e size v n xs)
    (ad : Addr) (m c : Nat) (news : List Value) (hx : a.eval x = .slice (some ad) m c) (hl : news.length = m * size) (hnews : ∀ j u, news[j]? = some u → w.cell? (ad.add j) = some u) (h1 : ∀ u ∈ news, u.oneCell' = true)
    (h63 : n + m ≤ maxLen) (hbytes : (n + m) * bytes ≤ 140737488355328) (hbase : base ≤ w.heap.size)
    (h : ∀ v' w', w'.ownsRow base e size v' (n + m) (xs ++ news) → w.grownBy w' v.ownBlock → (v'.ownBlock = v.ownBlock ∨ v'.ownBlock = some w.heap.size) → K (a.put o.dst v') w') : o.wp P a w K Q := by
  obtain ⟨v', w', hr, h2, h3, _, h5⟩ := run_append_own_at (P := P) w base t o.type e i z size bytes ht hi hz hsize hby hzs hsz v n xs hown ad m c news hl hnews h1 h63 hbytes hbase
  unfold Oper.wp execOp
  simp only [ho, resolve, invoke, builtin, Sem.run_bind, Sem.run_pure, Result.andThen_ok, List.map_toArray, List.map_cons, List.map_nil, hs, hx, hr]
  exact h v' w' h2 h3 h5
theorem row_ints {w : World} {base g m cap : Nat} {O : Nat → Int} (h : w.ownsRow base 3 1 (.slice (some ⟨g, 0, none⟩) m cap) m (cellsL (intF O) 1 m)) {q : Nat} (hq : q < m) : w.cell? ⟨g, q, none⟩ = some (.int .i64 (O q)) := by
  rw [World.ownsRow.cellAt h q (by omega)]
  have := cellsL_at (intF O) 1 m q 0 hq (by omega)
  rw [Nat.mul_one, Nat.add_zero] at this
  rw [this]; rfl
theorem ev_at {w : World} {s : Nat} (hs : w.heap.size = s) (C : List Value) (e : TypeId) : ∀ j u, C[j]? = some u → (w.alloc (.cells C.toArray e)).cell? ((⟨s, 0, none⟩ : Addr).add j) = some u := hs ▸ cells_new w C e
def EvsDrew (g : Nat) (a : Option Addr) (n cap : Nat) (X : Nat → Int) (t : Nat) (w : World) (r : Ending) (w' : World) : Prop :=
  ∃ (v : Value) (k : Nat), k ≤ 62 ∧ r = .returned v ∧ EvIn w' w.heap.size v k ∧ Drew g a n cap X (t + 1000) w w'

set_option maxRecDepth 100000 in
set_option maxHeartbeats 8000000 in
theorem events_any (g : Nat) (a : Option Addr) (n cap : Nat) (X : Nat → Int) (t : Nat) (w : World) (ht : t ≤ 10000) (hc : Cur w g a n cap X t) :
    Calls Try.prog 65 #[.pointer (some ⟨g, 0, none⟩)] w (EvsDrew g a n cap X t w) := by
  have hgw : g < w.heap.size := hc.2.2.2.2.2.1
  have HC : Hid (Cur w g a n cap X t) := hc
  clear hc
  obtain ⟨i0, hi0, hz0, hz1, hz2⟩ := info_parts info_ev
  obtain ⟨j0, hj0, hy0, hy1, hy2⟩ := info_parts info_int
  go_enter Try.func65, Try.ntmps65
  go_wp2_with fail
  refine (pick_any _ _ _ _ _ _ _ _ (by omega) (by omega) HC.out).mono ?_
  rintro r w1 ⟨x1, hx1, rfl, hd⟩
  have H1 : Hid (Drew g a n cap X (t + 2) w w1) := hd
  clear hd HC
  go_wp2_with fail
  refine (one_any _ _ _ _ _ _ _ _ (by omega) (by omega) H1.out.1).mono ?_
  rintro r w2 ⟨b2, rfl, hd⟩
  have H2 : Hid (Drew g a n cap X (t + 4) w w2) := H1.out.trans hd
  clear hd H1
  cases b2

  · obtain ⟨N, hN, hNx⟩ : ∃ N : Nat, N ≤ 61 ∧ x1 = (N : Int) := ⟨x1.toNat, by omega, by omega⟩
    have H3 : Hid (EvH w2 w g a n cap X (t + 6) (.slice none 0 0) 0 (.slice none 0 0) 0) := ⟨⟨fun _ => 0, fun _ => 0, fun _ => 0, World.ownsRow_nil _ _ _ _, fun i hi => absurd hi (by omega)⟩, ⟨fun _ => 0, World.ownsRow_nil _ _ _ _, fun i hi => absurd hi (by omega)⟩, (fun b hb => by cases hb), H2.out.up (by omega)⟩
    clear H2
    go_wp2
    try rw [hNx]

    clear hNx
    go_loopw [6, 3, 4, 5] (fun i v3 v4 x5 wr => ∃ (k m : Nat) (nx : Int), k ≤ N ∧ i = .int .i64 ((N : Int) - k) ∧ m ≤ k ∧ x5 = .int .i64 nx ∧ 1 ≤ nx ∧ nx ≤ 1 + k ∧ EvH wr w g a n cap X (t + 6 + 8 * k) v3 k v4 m) (fun i _ _ _ _ => (intOf i).toNat)
    case atStart => exact ⟨0, 0, 1, Nat.zero_le _, by simp, Nat.zero_le _, rfl, by omega, by omega, H3.out⟩
    case round =>
      obtain ⟨k, m, nx, hk, rfl, hmk, rfl, hnx1, hnx2, hH⟩ := hrel
      clear H3
      have HH : Hid (EvH wr w g a n cap X (t + 6 + 8 * k) u3 k u4 m) := hH
      clear hH
      by_cases hlt : k < N
      · have hlt' : 0 < (N : Int) - (k : Int) := by omega
        go_wp2_with fail
        refine (pick_any _ _ _ _ _ _ _ _ (by omega) (by omega) HH.out.2.2.2.1).mono ?_
        rintro r wa ⟨ya, hya, rfl, hd⟩
        have HA : Hid (EvH wa w g a n cap X (t + 6 + 8 * k + 2) u3 k u4 m) := HH.out.draw hd hgw
        have hza : w.heap.size ≤ wa.heap.size := HA.out.2.2.2.2.2.2.2.1
        clear hd HH
        go_wp2_with fail
        refine (pick_any _ _ _ _ _ _ _ _ (by omega) (by omega) (HA.out.alloc _).2.2.2.1).mono ?_
        rintro r wb ⟨yb, hyb, rfl, hd⟩
        have HB : Hid (EvH wb w g a n cap X (t + 6 + 8 * k + 4) u3 k u4 m ∧ Bx wb wa.heap.size [.int .i64 1, .int .i64 ya, .int .i64 0]) := ⟨(HA.out.alloc _).draw hd hgw, (Bx.new wa [.int .i64 1, .int .i64 ya, .int .i64 0] 49).trn hd.2 (Or.inr (by omega))⟩
        have hl3 : ∀ b, u3.ownBlock = some b → b ≠ wa.heap.size := fun b hb => by have := (HA.out.lt3 b hb).2; omega
        have hl4 : ∀ b, u4.ownBlock = some b → b ≠ wa.heap.size := fun b hb => by have := (HA.out.lt4 b hb).2; omega
        have HL : Hid ((∀ b, u3.ownBlock = some b → b ≠ wa.heap.size) ∧ ∀ b, u4.ownBlock = some b → b ≠ wa.heap.size) := ⟨hl3, hl4⟩
        clear hd HA hl3 hl4
        have hb4 : yb = 0 ∨ yb = 1 ∨ yb = 2 ∨ yb = 3 := by omega
        clear hya
        rcases hb4 with rfl | rfl | rfl | rfl
        · have f0 := HB.out.2.frz 0 (by simp)
          have f2 := HB.out.2.frz 2 (by simp)
          have c0 := HB.out.2.cell 0 rfl
          have c2 := HB.out.2.cell 2 rfl
          have cl := HB.out.2.2
          have HM : Hid (EvH ((wb.setCell ⟨wa.heap.size, 0, none⟩ (.int .i64 2)).setCell ⟨wa.heap.size, 2, none⟩ (.int .i64 nx)) w g a n cap X (t + 6 + 8 * k + 4) u3 k u4 m ∧ Bx ((wb.setCell ⟨wa.heap.size, 0, none⟩ (.int .i64 2)).setCell ⟨wa.heap.size, 2, none⟩ (.int .i64 nx)) wa.heap.size [.int .i64 2, .int .i64 ya, .int .i64 nx]) := ⟨(HB.out.1.put hgw hza HL.out.1 HL.out.2).put hgw hza HL.out.1 HL.out.2, (HB.out.2.set (k := 0) (by simp) (.int .i64 2)).set (k := 2) (by simp) (.int .i64 nx)⟩
          obtain ⟨O, ho, hO⟩ := HM.out.1.2.1
          have HQ : Hid (((wb.setCell ⟨wa.heap.size, 0, none⟩ (.int .i64 2)).setCell ⟨wa.heap.size, 2, none⟩ (.int .i64 nx)).ownsRow w.heap.size 3 1 u4 m (cellsL (intF O) 1 m) ∧ ∀ i, i < m → 0 ≤ O i ∧ O i ≤ 1000) := ⟨ho, hO⟩
          have hzb : w.heap.size ≤ wb.heap.size := HB.out.1.2.2.2.2.2.2.2.1
          clear ho hO HB
          go_upto_region 23 with (first
            | (at_builtin; refine wpList_append_own_at _ rfl (.tmp 31) (.tmp 33) 25 rfl w.heap.size 3 j0 (.int .i64 0) 1 8 Try.underlying25 hj0 hy0 hy1 hy2 rfl (by decide) u4 m (cellsL (intF O) 1 m) rfl (World.ownsRow.alloc HQ.out.1 _) ⟨_, 0, none⟩ 1 1 [.int .i64 nx] rfl rfl (ev_at (by first | rfl | simp) _ _) (by intro u hu; simp at hu; subst hu; rfl) (by unfold maxLen; omega) (by omega) (by simp <;> omega) ?_; intro v5 w5 hown hgrow hnil hwhere)
            | go_in)
          have HT : Hid (EvH w5 w g a n cap X (t + 6 + 8 * (k + 1)) u3 k v5 (m + 1) ∧ Bx w5 wa.heap.size [.int .i64 2, .int .i64 ya, .int .i64 nx]) := ⟨((HM.out.1.alloc _).open4 hgw hgrow (InIn.snoc hown HQ.out.2 (by omega)) (by simpa using hwhere)).up (by omega), (HM.out.2.alloc _).gr hgrow (fun e => HL.out.2 _ e rfl)⟩
          clear hown hgrow hnil hwhere HQ HM f0 f2 c0 c2 cl
          obtain ⟨K, P, M, ho, hM⟩ := HT.out.1.1
          have HO : Hid ((w5).ownsRow w.heap.size 49 3 u3 k (cellsL (evF K P M) 3 k) ∧ ∀ i, i < k → 0 ≤ M i ∧ M i ≤ 1000) := ⟨ho, hM⟩
          have q0 := HT.out.2.cell 0 rfl
          have q1 := HT.out.2.cell 1 rfl
          have q2 := HT.out.2.cell 2 rfl
          have ql := HT.out.2.2
          have hzt : w.heap.size ≤ (w5).heap.size := HT.out.1.2.2.2.2.2.2.2.1
          clear ho hM
          go_wp2_with (first
            | (at_builtin; refine wpList_append_own_at _ rfl (.tmp 62) (.tmp 64) 23 rfl w.heap.size 49 i0 (.agg #[.int .i64 0, .int .i64 0, .int .i64 0]) 3 24 Try.underlying23 hi0 hz0 hz1 hz2 rfl (by decide) u3 k (cellsL (evF K P M) 3 k) rfl (World.ownsRow.alloc HO.out.1 _) ⟨_, 0, none⟩ 1 1 [.int .i64 2, .int .i64 ya, .int .i64 nx] rfl rfl (ev_at (by first | rfl | simp) _ _) (by intro u hu; simp at hu; rcases hu with rfl | rfl | rfl <;> rfl) (by unfold maxLen; omega) (by omega) (by simp <;> omega) ?_; intro v9 w9 hown hgrow hnil hwhere)
            | go_in)
          have HF : Hid (EvH w9 w g a n cap X (t + 6 + 8 * (k + 1)) v9 (k + 1) v5 (m + 1)) := ((HT.out.1.alloc _).list3 hgw hgrow (EvIn.snoc hown HO.out.2 (by omega)) (by simpa using hwhere)).up (by omega)
          clear hown hgrow hnil hwhere HO HT q0 q1 q2 ql
          go_wp2
          go_roundw
          case rel => exact ⟨k + 1, (m + 1), (nx + 1), by omega, by go_num, by omega, by go_num, by omega, by omega, HF.out⟩
          case measure => simp [intOf]; omega
        · have f0 := HB.out.2.frz 0 (by simp)
          have f2 := HB.out.2.frz 2 (by simp)
          have c0 := HB.out.2.cell 0 rfl
          have c2 := HB.out.2.cell 2 rfl
          have cl := HB.out.2.2
          have HM : Hid (EvH ((wb.setCell ⟨wa.heap.size, 0, none⟩ (.int .i64 2)).setCell ⟨wa.heap.size, 2, none⟩ (.int .i64 nx)) w g a n cap X (t + 6 + 8 * k + 4) u3 k u4 m ∧ Bx ((wb.setCell ⟨wa.heap.size, 0, none⟩ (.int .i64 2)).setCell ⟨wa.heap.size, 2, none⟩ (.int .i64 nx)) wa.heap.size [.int .i64 2, .int .i64 ya, .int .i64 nx]) := ⟨(HB.out.1.put hgw hza HL.out.1 HL.out.2).put hgw hza HL.out.1 HL.out.2, (HB.out.2.set (k := 0) (by simp) (.int .i64 2)).set (k := 2) (by simp) (.int .i64 nx)⟩
          obtain ⟨O, ho, hO⟩ := HM.out.1.2.1
          have HQ : Hid (((wb.setCell ⟨wa.heap.size, 0, none⟩ (.int .i64 2)).setCell ⟨wa.heap.size, 2, none⟩ (.int .i64 nx)).ownsRow w.heap.size 3 1 u4 m (cellsL (intF O) 1 m) ∧ ∀ i, i < m → 0 ≤ O i ∧ O i ≤ 1000) := ⟨ho, hO⟩
          have hzb : w.heap.size ≤ wb.heap.size := HB.out.1.2.2.2.2.2.2.2.1
          clear ho hO HB
          go_upto_region 23 with (first
            | (at_builtin; refine wpList_append_own_at _ rfl (.tmp 31) (.tmp 33) 25 rfl w.heap.size 3 j0 (.int .i64 0) 1 8 Try.underlying25 hj0 hy0 hy1 hy2 rfl (by decide) u4 m (cellsL (intF O) 1 m) rfl (World.ownsRow.alloc HQ.out.1 _) ⟨_, 0, none⟩ 1 1 [.int .i64 nx] rfl rfl (ev_at (by first | rfl | simp) _ _) (by intro u hu; simp at hu; subst hu; rfl) (by unfold maxLen; omega) (by omega) (by simp <;> omega) ?_; intro v5 w5 hown hgrow hnil hwhere)
            | go_in)
          have HT : Hid (EvH w5 w g a n cap X (t + 6 + 8 * (k + 1)) u3 k v5 (m + 1) ∧ Bx w5 wa.heap.size [.int .i64 2, .int .i64 ya, .int .i64 nx]) := ⟨((HM.out.1.alloc _).open4 hgw hgrow (InIn.snoc hown HQ.out.2 (by omega)) (by simpa using hwhere)).up (by omega), (HM.out.2.alloc _).gr hgrow (fun e => HL.out.2 _ e rfl)⟩
          clear hown hgrow hnil hwhere HQ HM f0 f2 c0 c2 cl
          obtain ⟨K, P, M, ho, hM⟩ := HT.out.1.1
          have HO : Hid ((w5).ownsRow w.heap.size 49 3 u3 k (cellsL (evF K P M) 3 k) ∧ ∀ i, i < k → 0 ≤ M i ∧ M i ≤ 1000) := ⟨ho, hM⟩
          have q0 := HT.out.2.cell 0 rfl
          have q1 := HT.out.2.cell 1 rfl
          have q2 := HT.out.2.cell 2 rfl
          have ql := HT.out.2.2
          have hzt : w.heap.size ≤ (w5).heap.size := HT.out.1.2.2.2.2.2.2.2.1
          clear ho hM
          go_wp2_with (first
            | (at_builtin; refine wpList_append_own_at _ rfl (.tmp 62) (.tmp 64) 23 rfl w.heap.size 49 i0 (.agg #[.int .i64 0, .int .i64 0, .int .i64 0]) 3 24 Try.underlying23 hi0 hz0 hz1 hz2 rfl (by decide) u3 k (cellsL (evF K P M) 3 k) rfl (World.ownsRow.alloc HO.out.1 _) ⟨_, 0, none⟩ 1 1 [.int .i64 2, .int .i64 ya, .int .i64 nx] rfl rfl (ev_at (by first | rfl | simp) _ _) (by intro u hu; simp at hu; rcases hu with rfl | rfl | rfl <;> rfl) (by unfold maxLen; omega) (by omega) (by simp <;> omega) ?_; intro v9 w9 hown hgrow hnil hwhere)
            | go_in)
          have HF : Hid (EvH w9 w g a n cap X (t + 6 + 8 * (k + 1)) v9 (k + 1) v5 (m + 1)) := ((HT.out.1.alloc _).list3 hgw hgrow (EvIn.snoc hown HO.out.2 (by omega)) (by simpa using hwhere)).up (by omega)
          clear hown hgrow hnil hwhere HO HT q0 q1 q2 ql
          go_wp2
          go_roundw
          case rel => exact ⟨k + 1, (m + 1), (nx + 1), by omega, by go_num, by omega, by go_num, by omega, by omega, HF.out⟩
          case measure => simp [intOf]; omega
        · by_cases hm0 : 0 < m
          · obtain ⟨O, ho, hO⟩ := HB.out.1.2.1
            obtain ⟨g4, cap4, rfl⟩ := Go.Joins.ownsRow_form ho hm0
            have hmc : m ≤ cap4 ∧ cap4 ≤ maxLen := by
              obtain ⟨_, h | ⟨g', cap', cur, hv, _, _, hn, hm, _⟩⟩ := ho
              · exact absurd h.1 (by simp)
              · simp only [Value.slice.injEq, true_and] at hv
                rw [hv.2]; exact ⟨hn, hm⟩
            unfold maxLen at hmc
            have hm0' : (0 : Int) < (m : Int) := by omega
            clear ho
            go_wp2_with fail
            refine (pick_any _ _ _ _ _ _ _ _ (by omega) (by omega) HB.out.1.2.2.2.1).mono ?_
            rintro r w5 ⟨x5, hx5, rfl, hd⟩
            obtain ⟨q, hq, hqx⟩ : ∃ q : Nat, q < m ∧ x5 = (q : Int) := ⟨x5.toNat, by omega, by omega⟩
            subst hqx
            have h5 : EvH w5 w g a n cap X (t + 6 + 8 * k + 6) u3 k (.slice (some ⟨g4, 0, none⟩) m cap4) m := HB.out.1.draw hd hgw
            have hb5 : Bx w5 wa.heap.size [.int .i64 1, .int .i64 ya, .int .i64 0] := HB.out.2.trn hd.2 (Or.inr (by omega))
            clear hd HB hx5 hO
            obtain ⟨O, ho, hO⟩ := h5.2.1
            have hcq := row_ints ho hq
            have hOq := hO q hq
            have hg4 : g4 ≠ wa.heap.size := HL.out.2 g4 rfl
            have hg4l : g4 < w5.heap.size := (ho.lt g4 rfl).2
            obtain ⟨oq, hoq⟩ : ∃ oq, oq = O q := ⟨_, rfl⟩
            rw [← hoq] at hcq hOq
            have f0 := hb5.frz 0 (by simp)
            have f2 := hb5.frz 2 (by simp)
            have c0 := hb5.cell 0 rfl
            have c2 := hb5.cell 2 rfl
            have cl := hb5.2
            obtain ⟨w6, hw6⟩ : ∃ w6, w6 = (w5.setCell ⟨wa.heap.size, 0, none⟩ (.int .i64 3)).setCell ⟨wa.heap.size, 2, none⟩ (.int .i64 oq) := ⟨_, rfl⟩
            have hcq' : (w5.setCell ⟨wa.heap.size, 0, none⟩ (.int .i64 3)).cell? ⟨g4, q, none⟩ = some (.int .i64 oq) := by rw [World.cell?_setCell_other _ _ _ _ (addr_ne' (fun e => hg4 e.symm))]; exact hcq
            have h6 : EvH w6 w g a n cap X (t + 6 + 8 * k + 6) u3 k (.slice (some ⟨g4, 0, none⟩) m cap4) m ∧ Bx w6 wa.heap.size [.int .i64 3, .int .i64 ya, .int .i64 oq] := by
              rw [hw6]
              exact ⟨(h5.put hgw hza HL.out.1 HL.out.2).put hgw hza HL.out.1 HL.out.2, (hb5.set (k := 0) (by simp) (.int .i64 3)).set (k := 2) (by simp) (.int .i64 oq)⟩
            have hz6 : w.heap.size ≤ w6.heap.size := h6.1.2.2.2.2.2.2.2.1
            have H6 : Hid (EvH w6.drew w g a n cap X (t + 6 + 8 * k + 6) u3 k (.slice (some ⟨g4, 0, none⟩) m cap4) m ∧ Bx w6.drew wa.heap.size [.int .i64 3, .int .i64 ya, .int .i64 oq]) := ⟨h6.1.next (Below.refl _ _).drew, h6.2.next (Below.refl _ _).drew⟩
            have hbl6 : wa.heap.size < w6.heap.size := h6.2.2
            clear h5 hb5 ho hO h6 hoq
            have hqm : (q : Int) < (m : Int) := by omega
            have hqc : (q : Int) ≤ (cap4 : Int) := by omega
            have hqm1 : (q : Int) + 1 ≤ (m : Int) := by omega
            have hqn : q ≤ m := by omega
            have hq0 : (0 : Int) ≤ (q : Int) + 1 := by omega
            have hq1 : (q : Int) ≤ (q : Int) + 1 := by omega
            have hqw : IntKind.i64.wrap ((q : Int) + 1) = (q : Int) + 1 := by rw [IntKind.wrap_i64]; omega
            have hqt : ((q : Int) + 1).toNat = q + 1 := by omega
            go_upto_region 22 with fail
            rw [← hw6]
            clear hw6 c0 c2 f0 f2 cl hcq hcq'
            obtain ⟨O2, ho2, hO2⟩ := H6.out.1.2.1
            have HO2 : Hid (w6.drew.ownsRow w.heap.size 3 1 (.slice (some ⟨g4, 0, none⟩) m cap4) m (cellsL (intF O2) 1 m) ∧ ∀ i, i < m → 0 ≤ O2 i ∧ O2 i ≤ 1000) := ⟨ho2, hO2⟩
            have HN1 : Hid (∀ W : World, W.ownsRow w.heap.size 3 1 (.slice (some ⟨g4, 0, none⟩) m cap4) m (cellsL (intF O2) 1 m) → ∀ j u, (((List.range q).map O2).map (Value.int .i64))[j]? = some u → W.cell? ((⟨g4, 0, none⟩ : Addr).add j) = some u) := fun W hW j u hj => by
              have hjq : j < q := by
                rcases Nat.lt_or_ge j q with h | h
                · exact h
                · rw [List.getElem?_eq_none (by simpa using h)] at hj; cases hj
              rw [addr_add, Nat.zero_add, row_ints hW (by omega)]
              simpa [hjq] using hj
            have HN2 : Hid (∀ W : World, W.ownsRow w.heap.size 3 1 (.slice (some ⟨g4, 0, none⟩) m cap4) m (cellsL (intF O2) 1 m) → ∀ j u, (((List.range (m - (q + 1))).map fun i => O2 (q + 1 + i)).map (Value.int .i64))[j]? = some u → W.cell? ((⟨g4, q + 1, none⟩ : Addr).add j) = some u) := fun W hW j u hj => by
              have hjq : j < m - (q + 1) := by
                rcases Nat.lt_or_ge j (m - (q + 1)) with h | h
                · exact h
                · rw [List.getElem?_eq_none (by simpa using h)] at hj; cases hj
              rw [addr_add, row_ints hW (by omega)]
              simpa [hjq] using hj
            clear ho2 hO2
            by_cases hcap : cap4 = q + 1
            · subst hcap
              refine wp_region_noPanic ?_
              refine wp_region_held_drew (S := fun _ => True) (by kernel_rfl) trivial (fun hHeld => ?_)
              refine take_v (v := ?_) 1 ⟨some 53, Op.move (Operand.tmp 4), _, _, _, none⟩ rfl (fun _ _ _ h => h) ?_ hHeld ?_
              rotate_left
              · (intro W _; go_simp <;> (try with_reducible rfl))
              refine take_v (v := ?_) 2 ⟨some 54, Op.move (Operand.tmp 8), _, _, _, none⟩ rfl (fun _ _ _ h => h) ?_ hHeld ?_
              rotate_left
              · (intro W _; go_simp <;> (try with_reducible rfl))
              refine take_v (v := ?_) 3 ⟨some 55, Op.slice 25 (Operand.tmp 53) none (some (Operand.tmp 54)) none, _, _, _, none⟩ rfl (fun _ _ _ h => h) ?_ hHeld ?_
              rotate_left
              · (intro W _; go_simp <;> (try with_reducible rfl))
              refine take_v (v := ?_) 5 ⟨some 57, Op.move (Operand.tmp 4), _, _, _, none⟩ rfl (fun _ _ _ h => h) ?_ hHeld ?_
              rotate_left
              · (intro W _; go_simp <;> (try with_reducible rfl))
              refine take_v (v := ?_) 6 ⟨some 58, Op.move (Operand.tmp 8), _, _, _, none⟩ rfl (fun _ _ _ h => h) ?_ hHeld ?_
              rotate_left
              · (intro W _; go_simp <;> (try with_reducible rfl))
              refine take_v (v := ?_) 7 ⟨some 59, Op.binOp BinOp.add 3 (Operand.tmp 58) (Operand.const (Value.int IntKind.i64 1)) 3, _, _, _, none⟩ rfl (fun _ _ _ h => h) ?_ hHeld ?_
              rotate_left
              · (intro W _; go_simp <;> (try with_reducible rfl))
              refine take_v (v := ?_) 8 ⟨some 60, Op.slice 25 (Operand.tmp 57) (some (Operand.tmp 59)) none none, _, _, _, none⟩ rfl (fun _ _ _ h => h) ?_ hHeld ?_
              rotate_left
              · (intro W _; go_simp <;> (try with_reducible rfl))
              refine ready_call 0 ⟨some 52, Op.buildSlice 25 0 #[], _, _, _, none⟩ (by kernel_rfl) rfl (by kernel_rfl) (fun K hK => ?_)
              go_wp2_with fail
              refine hK.out _ _ trivial (fun hHeld => ?_)
              clear hK K
              refine ready_call 4 ⟨some 56, Op.call { callee := Callee.builtin Builtin.append, args := #[Operand.tmp 52, Operand.tmp 55], argTypes := #[25, 25] }, _, _, _, none⟩ (by kernel_rfl) rfl (by kernel_rfl) (fun K hK => ?_)
              refine wp_append_any _ (.tmp 52) (.tmp 55) 25 (by rfl) w.heap.size 3 j0 (.int .i64 0) 1 8 Try.underlying25 hj0 hy0 hy1 hy2 rfl (by decide) (.slice (some ⟨w6.heap.size, 0, none⟩) 0 0) 0 [] (by rfl) (World.ownsRow_lit w6.drew #[] 0 hz6 (by unfold maxLen; omega) rfl) ⟨g4, 0, none⟩ q (q + 1) (((List.range q).map O2).map (Value.int .i64)) (by rfl) (by simp) (HN1.out _ (World.ownsRow.alloc HO2.out.1 _)) (by intro u hu; simp at hu; obtain ⟨y, _, rfl⟩ := hu; rfl) (by unfold maxLen; omega) (by omega) (by simp; exact Nat.le_trans hz6 (Nat.le_succ _)) ?_
              intro v7 w7 hown7 hgr7 hwh7
              refine hK.out _ _ trivial (fun hHeld => ?_)
              clear hK K
              refine ready_call 9 ⟨some 61, Op.call { callee := Callee.builtin Builtin.append, args := #[Operand.tmp 56, Operand.tmp 60], argTypes := #[25, 25] }, _, _, _, none⟩ (by kernel_rfl) rfl (by kernel_rfl) (fun K hK => ?_)
              have ho7 : w7.ownsRow w.heap.size 3 1 (.slice (some ⟨g4, 0, none⟩) m (q + 1)) m (cellsL (intF O2) 1 m) := own_gr (World.ownsRow.alloc HO2.out.1 _) hgr7 (fun b hb e => by have h1 := (HO2.out.1.lt b hb).2; cases e; exact absurd h1 (Nat.lt_irrefl _))
              refine wp_append_any _ (.tmp 56) (.tmp 60) 25 (by rfl) w.heap.size 3 j0 (.int .i64 0) 1 8 Try.underlying25 hj0 hy0 hy1 hy2 rfl (by decide) v7 (0 + q) ([] ++ ((List.range q).map O2).map (Value.int .i64)) (by rfl) hown7 ⟨g4, 0, none⟩ 0 _ (((List.range 0).map fun i => O2 (q + 1 + i)).map (Value.int .i64)) (by rfl) (by simp) (fun j u hj => by simp at hj) (by intro u hu; simp at hu) (by unfold maxLen; omega) (by omega) (Nat.le_trans hz6 (Nat.le_trans (Nat.le_succ _) (by have h9 : (w6.alloc (.cells #[] 3)).heap.size ≤ w7.heap.size := hgr7.size; rw [World.size_alloc] at h9; exact h9))) ?_
              intro v8 w8 hown8 hgr8 hwh8
              refine hK.out _ _ trivial (fun hHeld => ?_)
              clear hK K
              refine take_v (v := ?_) 10 ⟨some 4, Op.assign (Operand.tmp 61), _, _, _, none⟩ rfl (fun _ _ _ h => h) ?_ hHeld ?_
              rotate_left
              · (intro W _; go_simp <;> (try with_reducible rfl))
              refine wpAnyH_done (by kernel_rfl) ?_ _
              refine NoPanic.normal ?_
              have HT : Hid (EvH w8 w g a n cap X (t + 6 + 8 * (k + 1)) u3 k v8 (m - 1) ∧ Bx w8 wa.heap.size [.int .i64 3, .int .i64 ya, .int .i64 oq]) := by
                have hw1 : v7.ownBlock = some w6.drew.heap.size ∨ v7.ownBlock = some (w6.drew.heap.size + 1) := by
                  rcases hwh7 with h | h
                  · exact Or.inl h
                  · have h' : v7.ownBlock = some (w6.alloc (.cells #[] 3)).heap.size := h
                    rw [World.size_alloc] at h'; exact Or.inr h'
                refine ⟨(H6.out.1.swap hgw hz6 hgr7 hw1 hgr8 hwh8 ?_).up (by omega), ((H6.out.2.alloc _).gr hgr7 (fun e => by have e' : w6.heap.size = wa.heap.size := Option.some.inj e; omega)).gr hgr8 (fun e => ?_)⟩
                · have hl : ((List.range q).map O2 ++ (List.range 0).map fun i => O2 (q + 1 + i)).length = m - 1 := by simp; omega
                  have := InIn.of (w := w8) (base := w.heap.size) (v := v8) (xs := (List.range q).map O2 ++ (List.range 0).map fun i => O2 (q + 1 + i)) (by
                    rw [hl, List.map_append]
                    have e1 : 0 + q + 0 = m - 1 := by omega
                    rw [e1] at hown8
                    simpa using hown8) (fun x hx => by
                      simp only [List.mem_append, List.mem_map, List.mem_range] at hx
                      rcases hx with ⟨i, hi, rfl⟩ | ⟨i, hi, rfl⟩
                      · exact HO2.out.2 i (by omega)
                      · exact HO2.out.2 (q + 1 + i) (by omega))
                  rw [hl] at this; exact this
                · rcases hw1 with h | h
                  · rw [h] at e
                    have e' : w6.heap.size = wa.heap.size := Option.some.inj e
                    omega
                  · rw [h] at e
                    have e' : w6.heap.size + 1 = wa.heap.size := Option.some.inj e
                    omega
              clear hown7 hgr7 hwh7 ho7 hown8 hgr8 hwh8 H6 HO2 HN1 HN2
              obtain ⟨K, P, M, ho, hM⟩ := HT.out.1.1
              have HO : Hid ((w8).ownsRow w.heap.size 49 3 u3 k (cellsL (evF K P M) 3 k) ∧ ∀ i, i < k → 0 ≤ M i ∧ M i ≤ 1000) := ⟨ho, hM⟩
              have q0 := HT.out.2.cell 0 rfl
              have q1 := HT.out.2.cell 1 rfl
              have q2 := HT.out.2.cell 2 rfl
              have ql := HT.out.2.2
              have hzt : w.heap.size ≤ (w8).heap.size := HT.out.1.2.2.2.2.2.2.2.1
              clear ho hM
              go_wp2_with (first
                | (at_builtin; refine wpList_append_own_at _ rfl (.tmp 62) (.tmp 64) 23 rfl w.heap.size 49 i0 (.agg #[.int .i64 0, .int .i64 0, .int .i64 0]) 3 24 Try.underlying23 hi0 hz0 hz1 hz2 rfl (by decide) u3 k (cellsL (evF K P M) 3 k) rfl (World.ownsRow.alloc HO.out.1 _) ⟨_, 0, none⟩ 1 1 [.int .i64 3, .int .i64 ya, .int .i64 oq] rfl rfl (ev_at (by first | rfl | simp) _ _) (by intro u hu; simp at hu; rcases hu with rfl | rfl | rfl <;> rfl) (by unfold maxLen; omega) (by omega) (by simp <;> omega) ?_; intro v9 w9 hown hgrow hnil hwhere)
                | go_in)
              have HF : Hid (EvH w9 w g a n cap X (t + 6 + 8 * (k + 1)) v9 (k + 1) v8 (m - 1)) := ((HT.out.1.alloc _).list3 hgw hgrow (EvIn.snoc hown HO.out.2 hOq) (by simpa using hwhere)).up (by omega)
              clear hown hgrow hnil hwhere HO HT q0 q1 q2 ql
              go_wp2
              go_roundw
              case rel => exact ⟨k + 1, (m - 1), nx, by omega, by go_num, by omega, rfl, by omega, by omega, HF.out⟩
              case measure => simp [intOf]; omega
            · skip
              refine wp_region_noPanic ?_
              refine wp_region_held_drew (S := fun _ => True) (by kernel_rfl) trivial (fun hHeld => ?_)
              refine take_v (v := ?_) 1 ⟨some 53, Op.move (Operand.tmp 4), _, _, _, none⟩ rfl (fun _ _ _ h => h) ?_ hHeld ?_
              rotate_left
              · (intro W _; go_simp <;> (try with_reducible rfl))
              refine take_v (v := ?_) 2 ⟨some 54, Op.move (Operand.tmp 8), _, _, _, none⟩ rfl (fun _ _ _ h => h) ?_ hHeld ?_
              rotate_left
              · (intro W _; go_simp <;> (try with_reducible rfl))
              refine take_v (v := ?_) 3 ⟨some 55, Op.slice 25 (Operand.tmp 53) none (some (Operand.tmp 54)) none, _, _, _, none⟩ rfl (fun _ _ _ h => h) ?_ hHeld ?_
              rotate_left
              · (intro W _; go_simp <;> (try with_reducible rfl))
              refine take_v (v := ?_) 5 ⟨some 57, Op.move (Operand.tmp 4), _, _, _, none⟩ rfl (fun _ _ _ h => h) ?_ hHeld ?_
              rotate_left
              · (intro W _; go_simp <;> (try with_reducible rfl))
              refine take_v (v := ?_) 6 ⟨some 58, Op.move (Operand.tmp 8), _, _, _, none⟩ rfl (fun _ _ _ h => h) ?_ hHeld ?_
              rotate_left
              · (intro W _; go_simp <;> (try with_reducible rfl))
              refine take_v (v := ?_) 7 ⟨some 59, Op.binOp BinOp.add 3 (Operand.tmp 58) (Operand.const (Value.int IntKind.i64 1)) 3, _, _, _, none⟩ rfl (fun _ _ _ h => h) ?_ hHeld ?_
              rotate_left
              · (intro W _; go_simp <;> (try with_reducible rfl))
              refine take_v (v := ?_) 8 ⟨some 60, Op.slice 25 (Operand.tmp 57) (some (Operand.tmp 59)) none none, _, _, _, none⟩ rfl (fun _ _ _ h => h) ?_ hHeld ?_
              rotate_left
              · (intro W _; go_simp <;> (try with_reducible rfl))
              refine ready_call 0 ⟨some 52, Op.buildSlice 25 0 #[], _, _, _, none⟩ (by kernel_rfl) rfl (by kernel_rfl) (fun K hK => ?_)
              go_wp2_with fail
              refine hK.out _ _ trivial (fun hHeld => ?_)
              clear hK K
              refine ready_call 4 ⟨some 56, Op.call { callee := Callee.builtin Builtin.append, args := #[Operand.tmp 52, Operand.tmp 55], argTypes := #[25, 25] }, _, _, _, none⟩ (by kernel_rfl) rfl (by kernel_rfl) (fun K hK => ?_)
              refine wp_append_any _ (.tmp 52) (.tmp 55) 25 (by rfl) w.heap.size 3 j0 (.int .i64 0) 1 8 Try.underlying25 hj0 hy0 hy1 hy2 rfl (by decide) (.slice (some ⟨w6.heap.size, 0, none⟩) 0 0) 0 [] (by rfl) (World.ownsRow_lit w6.drew #[] 0 hz6 (by unfold maxLen; omega) rfl) ⟨g4, 0, none⟩ q cap4 (((List.range q).map O2).map (Value.int .i64)) (by rfl) (by simp) (HN1.out _ (World.ownsRow.alloc HO2.out.1 _)) (by intro u hu; simp at hu; obtain ⟨y, _, rfl⟩ := hu; rfl) (by unfold maxLen; omega) (by omega) (by simp; exact Nat.le_trans hz6 (Nat.le_succ _)) ?_
              intro v7 w7 hown7 hgr7 hwh7
              refine hK.out _ _ trivial (fun hHeld => ?_)
              clear hK K
              refine ready_call 9 ⟨some 61, Op.call { callee := Callee.builtin Builtin.append, args := #[Operand.tmp 56, Operand.tmp 60], argTypes := #[25, 25] }, _, _, _, none⟩ (by kernel_rfl) rfl (by kernel_rfl) (fun K hK => ?_)
              have ho7 : w7.ownsRow w.heap.size 3 1 (.slice (some ⟨g4, 0, none⟩) m cap4) m (cellsL (intF O2) 1 m) := own_gr (World.ownsRow.alloc HO2.out.1 _) hgr7 (fun b hb e => by have h1 := (HO2.out.1.lt b hb).2; cases e; exact absurd h1 (Nat.lt_irrefl _))
              refine wp_append_any _ (.tmp 56) (.tmp 60) 25 (by rfl) w.heap.size 3 j0 (.int .i64 0) 1 8 Try.underlying25 hj0 hy0 hy1 hy2 rfl (by decide) v7 (0 + q) ([] ++ ((List.range q).map O2).map (Value.int .i64)) (by rfl) hown7 ⟨g4, q + 1, none⟩ (m - (q + 1)) _ (((List.range (m - (q + 1))).map fun i => O2 (q + 1 + i)).map (Value.int .i64)) (by rfl) (by simp) (HN2.out _ ho7) (by intro u hu; simp at hu; obtain ⟨y, _, rfl⟩ := hu; rfl) (by unfold maxLen; omega) (by omega) (Nat.le_trans hz6 (Nat.le_trans (Nat.le_succ _) (by have h9 : (w6.alloc (.cells #[] 3)).heap.size ≤ w7.heap.size := hgr7.size; rw [World.size_alloc] at h9; exact h9))) ?_
              intro v8 w8 hown8 hgr8 hwh8
              refine hK.out _ _ trivial (fun hHeld => ?_)
              clear hK K
              refine take_v (v := ?_) 10 ⟨some 4, Op.assign (Operand.tmp 61), _, _, _, none⟩ rfl (fun _ _ _ h => h) ?_ hHeld ?_
              rotate_left
              · (intro W _; go_simp <;> (try with_reducible rfl))
              refine wpAnyH_done (by kernel_rfl) ?_ _
              refine NoPanic.normal ?_
              have HT : Hid (EvH w8 w g a n cap X (t + 6 + 8 * (k + 1)) u3 k v8 (m - 1) ∧ Bx w8 wa.heap.size [.int .i64 3, .int .i64 ya, .int .i64 oq]) := by
                have hw1 : v7.ownBlock = some w6.drew.heap.size ∨ v7.ownBlock = some (w6.drew.heap.size + 1) := by
                  rcases hwh7 with h | h
                  · exact Or.inl h
                  · have h' : v7.ownBlock = some (w6.alloc (.cells #[] 3)).heap.size := h
                    rw [World.size_alloc] at h'; exact Or.inr h'
                refine ⟨(H6.out.1.swap hgw hz6 hgr7 hw1 hgr8 hwh8 ?_).up (by omega), ((H6.out.2.alloc _).gr hgr7 (fun e => by have e' : w6.heap.size = wa.heap.size := Option.some.inj e; omega)).gr hgr8 (fun e => ?_)⟩
                · have hl : ((List.range q).map O2 ++ (List.range (m - (q + 1))).map fun i => O2 (q + 1 + i)).length = m - 1 := by simp; omega
                  have := InIn.of (w := w8) (base := w.heap.size) (v := v8) (xs := (List.range q).map O2 ++ (List.range (m - (q + 1))).map fun i => O2 (q + 1 + i)) (by
                    rw [hl, List.map_append]
                    have e1 : 0 + q + (m - (q + 1)) = m - 1 := by omega
                    rw [e1] at hown8
                    simpa using hown8) (fun x hx => by
                      simp only [List.mem_append, List.mem_map, List.mem_range] at hx
                      rcases hx with ⟨i, hi, rfl⟩ | ⟨i, hi, rfl⟩
                      · exact HO2.out.2 i (by omega)
                      · exact HO2.out.2 (q + 1 + i) (by omega))
                  rw [hl] at this; exact this
                · rcases hw1 with h | h
                  · rw [h] at e
                    have e' : w6.heap.size = wa.heap.size := Option.some.inj e
                    omega
                  · rw [h] at e
                    have e' : w6.heap.size + 1 = wa.heap.size := Option.some.inj e
                    omega
              clear hown7 hgr7 hwh7 ho7 hown8 hgr8 hwh8 H6 HO2 HN1 HN2
              obtain ⟨K, P, M, ho, hM⟩ := HT.out.1.1
              have HO : Hid ((w8).ownsRow w.heap.size 49 3 u3 k (cellsL (evF K P M) 3 k) ∧ ∀ i, i < k → 0 ≤ M i ∧ M i ≤ 1000) := ⟨ho, hM⟩
              have q0 := HT.out.2.cell 0 rfl
              have q1 := HT.out.2.cell 1 rfl
              have q2 := HT.out.2.cell 2 rfl
              have ql := HT.out.2.2
              have hzt : w.heap.size ≤ (w8).heap.size := HT.out.1.2.2.2.2.2.2.2.1
              clear ho hM
              go_wp2_with (first
                | (at_builtin; refine wpList_append_own_at _ rfl (.tmp 62) (.tmp 64) 23 rfl w.heap.size 49 i0 (.agg #[.int .i64 0, .int .i64 0, .int .i64 0]) 3 24 Try.underlying23 hi0 hz0 hz1 hz2 rfl (by decide) u3 k (cellsL (evF K P M) 3 k) rfl (World.ownsRow.alloc HO.out.1 _) ⟨_, 0, none⟩ 1 1 [.int .i64 3, .int .i64 ya, .int .i64 oq] rfl rfl (ev_at (by first | rfl | simp) _ _) (by intro u hu; simp at hu; rcases hu with rfl | rfl | rfl <;> rfl) (by unfold maxLen; omega) (by omega) (by simp <;> omega) ?_; intro v9 w9 hown hgrow hnil hwhere)
                | go_in)
              have HF : Hid (EvH w9 w g a n cap X (t + 6 + 8 * (k + 1)) v9 (k + 1) v8 (m - 1)) := ((HT.out.1.alloc _).list3 hgw hgrow (EvIn.snoc hown HO.out.2 hOq) (by simpa using hwhere)).up (by omega)
              clear hown hgrow hnil hwhere HO HT q0 q1 q2 ql
              go_wp2
              go_roundw
              case rel => exact ⟨k + 1, (m - 1), nx, by omega, by go_num, by omega, rfl, by omega, by omega, HF.out⟩
              case measure => simp [intOf]; omega
          · have hm0' : ¬ (0 : Int) < (m : Int) := by omega
            have hu4 : ∃ a4 c4, u4 = .slice a4 m c4 := by
              obtain ⟨O, ho, _⟩ := HB.out.1.2.1
              obtain ⟨a4, c4, e4, _⟩ := SRow.of ho
              exact ⟨a4, c4, e4⟩
            obtain ⟨a4, c4, rfl⟩ := hu4
            have HT : Hid (EvH wb w g a n cap X (t + 6 + 8 * (k + 1)) u3 k (.slice a4 m c4) m ∧ Bx wb wa.heap.size [.int .i64 1, .int .i64 ya, .int .i64 0]) := ⟨HB.out.1.up (by omega), HB.out.2⟩
            clear HB
            obtain ⟨K, P, M, ho, hM⟩ := HT.out.1.1
            have HO : Hid ((wb).ownsRow w.heap.size 49 3 u3 k (cellsL (evF K P M) 3 k) ∧ ∀ i, i < k → 0 ≤ M i ∧ M i ≤ 1000) := ⟨ho, hM⟩
            have q0 := HT.out.2.cell 0 rfl
            have q1 := HT.out.2.cell 1 rfl
            have q2 := HT.out.2.cell 2 rfl
            have ql := HT.out.2.2
            have hzt : w.heap.size ≤ (wb).heap.size := HT.out.1.2.2.2.2.2.2.2.1
            clear ho hM
            go_wp2_with (first
              | (at_builtin; refine wpList_append_own_at _ rfl (.tmp 62) (.tmp 64) 23 rfl w.heap.size 49 i0 (.agg #[.int .i64 0, .int .i64 0, .int .i64 0]) 3 24 Try.underlying23 hi0 hz0 hz1 hz2 rfl (by decide) u3 k (cellsL (evF K P M) 3 k) rfl (World.ownsRow.alloc HO.out.1 _) ⟨_, 0, none⟩ 1 1 [.int .i64 1, .int .i64 ya, .int .i64 0] rfl rfl (ev_at (by first | rfl | simp) _ _) (by intro u hu; simp at hu; rcases hu with rfl | rfl | rfl <;> rfl) (by unfold maxLen; omega) (by omega) (by simp <;> omega) ?_; intro v9 w9 hown hgrow hnil hwhere)
              | go_in)
            have HF : Hid (EvH w9 w g a n cap X (t + 6 + 8 * (k + 1)) v9 (k + 1) (.slice a4 m c4) m) := ((HT.out.1.alloc _).list3 hgw hgrow (EvIn.snoc hown HO.out.2 (by omega)) (by simpa using hwhere)).up (by omega)
            clear hown hgrow hnil hwhere HO HT q0 q1 q2 ql
            go_wp2
            go_roundw
            case rel => exact ⟨k + 1, m, nx, by omega, by go_num, by omega, rfl, by omega, by omega, HF.out⟩
            case measure => simp [intOf]; omega
        · have HT : Hid (EvH wb w g a n cap X (t + 6 + 8 * (k + 1)) u3 k u4 m ∧ Bx wb wa.heap.size [.int .i64 1, .int .i64 ya, .int .i64 0]) := ⟨HB.out.1.up (by omega), HB.out.2⟩
          clear HB
          obtain ⟨K, P, M, ho, hM⟩ := HT.out.1.1
          have HO : Hid ((wb).ownsRow w.heap.size 49 3 u3 k (cellsL (evF K P M) 3 k) ∧ ∀ i, i < k → 0 ≤ M i ∧ M i ≤ 1000) := ⟨ho, hM⟩
          have q0 := HT.out.2.cell 0 rfl
          have q1 := HT.out.2.cell 1 rfl
          have q2 := HT.out.2.cell 2 rfl
          have ql := HT.out.2.2
          have hzt : w.heap.size ≤ (wb).heap.size := HT.out.1.2.2.2.2.2.2.2.1
          clear ho hM
          go_wp2_with (first
            | (at_builtin; refine wpList_append_own_at _ rfl (.tmp 62) (.tmp 64) 23 rfl w.heap.size 49 i0 (.agg #[.int .i64 0, .int .i64 0, .int .i64 0]) 3 24 Try.underlying23 hi0 hz0 hz1 hz2 rfl (by decide) u3 k (cellsL (evF K P M) 3 k) rfl (World.ownsRow.alloc HO.out.1 _) ⟨_, 0, none⟩ 1 1 [.int .i64 1, .int .i64 ya, .int .i64 0] rfl rfl (ev_at (by first | rfl | simp) _ _) (by intro u hu; simp at hu; rcases hu with rfl | rfl | rfl <;> rfl) (by unfold maxLen; omega) (by omega) (by simp <;> omega) ?_; intro v9 w9 hown hgrow hnil hwhere)
            | go_in)
          have HF : Hid (EvH w9 w g a n cap X (t + 6 + 8 * (k + 1)) v9 (k + 1) u4 m) := ((HT.out.1.alloc _).list3 hgw hgrow (EvIn.snoc hown HO.out.2 (by omega)) (by simpa using hwhere)).up (by omega)
          clear hown hgrow hnil hwhere HO HT q0 q1 q2 ql
          go_wp2
          go_roundw
          case rel => exact ⟨k + 1, m, nx, by omega, by go_num, by omega, rfl, by omega, by omega, HF.out⟩
          case measure => simp [intOf]; omega
      · have hkn : k = N := by omega
        subst hkn
        have hlt' : ¬ 0 < (k : Int) - (k : Int) := by omega
        have HP : Hid (∀ (v : Value) (q : Nat) (W : World), q ≤ 62 → EvIn W w.heap.size v q → Drew g a n cap X (t + 1000) w W → EvsDrew g a n cap X t w (.returned v) W) := fun v q W h1 h2 h3 => ⟨v, q, h1, rfl, h2, h3⟩
        go_wp2_with fail
        refine (one_any _ _ _ _ _ _ _ _ (by omega) (by omega) HH.out.2.2.2.1).mono ?_
        rintro r wp ⟨bp, rfl, hd⟩
        have H7 : Hid (EvH wp w g a n cap X (t + 6 + 8 * k + 2) u3 k u4 m) := HH.out.draw hd hgw
        clear hd HH
        cases bp
        · have HF : Hid (EvsDrew g a n cap X t w (.returned u3) wp) := HP.out _ _ _ (by omega) H7.out.1 (H7.out.2.2.2.up (by omega))
          clear H7 HP
          go_wp2
          go_ret
          exact HF.out
        · go_wp2_with fail
          refine (pick_any _ _ _ _ _ _ _ _ (by omega) (by omega) H7.out.2.2.2.1).mono ?_
          rintro r wq ⟨z1, hz1', rfl, hd⟩
          have H8 : Hid (EvH wq w g a n cap X (t + 6 + 8 * k + 4) u3 k u4 m) := H7.out.draw hd hgw
          clear hd H7
          go_wp2_with fail
          refine (pick_any _ _ _ _ _ _ _ _ (by omega) (by omega) H8.out.2.2.2.1).mono ?_
          rintro r ws ⟨z2, hz2', rfl, hd⟩
          have H9 : Hid (EvH ws w g a n cap X (t + 6 + 8 * k + 6) u3 k u4 m) := H8.out.draw hd hgw
          clear hd H8
          go_wp2_with fail
          refine (pick_any _ _ _ _ _ _ _ _ (by omega) (by omega) H9.out.2.2.2.1).mono ?_
          rintro r wu ⟨z3, hz3', rfl, hd⟩
          have HT : Hid (EvH wu w g a n cap X (t + 6 + 8 * k + 8) u3 k u4 m) := H9.out.draw hd hgw
          clear hd H9
          obtain ⟨K, P, M, ho, hM⟩ := HT.out.1
          have HO : Hid (wu.ownsRow w.heap.size 49 3 u3 k (cellsL (evF K P M) 3 k) ∧ ∀ i, i < k → 0 ≤ M i ∧ M i ≤ 1000) := ⟨ho, hM⟩
          have hzt : w.heap.size ≤ wu.heap.size := HT.out.2.2.2.2.2.2.2.1
          clear ho hM
          go_wp2_with (first
            | (at_builtin; refine wpList_append_own_at _ rfl (.tmp 68) (.tmp 77) 23 rfl w.heap.size 49 i0 (.agg #[.int .i64 0, .int .i64 0, .int .i64 0]) 3 24 Try.underlying23 hi0 hz0 hz1 hz2 rfl (by decide) u3 k (cellsL (evF K P M) 3 k) rfl (World.ownsRow.alloc HO.out.1 _) ⟨_, 0, none⟩ 1 1 [.int .i64 z1, .int .i64 (z2 - 1), .int .i64 z3] rfl rfl (ev_at (by first | rfl | simp) _ _) (by intro u hu; simp at hu; rcases hu with rfl | rfl | rfl <;> rfl) (by unfold maxLen; omega) (by omega) (by simp <;> omega) ?_; intro v9 w9 hown hgrow hnil hwhere)
            | go_in)
          have HF : Hid (EvsDrew g a n cap X t w (.returned v9) w9) := HP.out _ _ _ (by omega) (EvIn.snoc hown HO.out.2 (by omega)) (((HT.out.2.2.2.alloc _).grown hgrow hgw (fun j hj => (HO.out.1.lt j hj).1)).up (by omega))
          clear hown hgrow hnil hwhere HO HT HP
          go_ret
          exact HF.out

  · go_wp2_with fail
    refine (pick_any _ _ _ _ _ _ _ _ (by omega) (by omega) H2.out.1).mono ?_
    rintro r w3 ⟨x3, hx3, rfl, hd⟩
    have H3 : Hid (EvH w3 w g a n cap X (t + 6) (.slice none 0 0) 0 (.slice none 0 0) 0) := ⟨⟨fun _ => 0, fun _ => 0, fun _ => 0, World.ownsRow_nil _ _ _ _, fun i hi => absurd hi (by omega)⟩, ⟨fun _ => 0, World.ownsRow_nil _ _ _ _, fun i hi => absurd hi (by omega)⟩, (fun b hb => by cases hb), (H2.out.trans hd).up (by omega)⟩
    clear hd H2
    obtain ⟨N, hN, hNx⟩ : ∃ N : Nat, N ≤ 61 ∧ 60 + x3 = (N : Int) := ⟨(60 + x3).toNat, by omega, by omega⟩
    go_wp2
    try rw [hNx]

    clear hNx
    go_loopw [6, 3, 4, 5] (fun i v3 v4 x5 wr => ∃ (k m : Nat) (nx : Int), k ≤ N ∧ i = .int .i64 ((N : Int) - k) ∧ m ≤ k ∧ x5 = .int .i64 nx ∧ 1 ≤ nx ∧ nx ≤ 1 + k ∧ EvH wr w g a n cap X (t + 6 + 8 * k) v3 k v4 m) (fun i _ _ _ _ => (intOf i).toNat)
    case atStart => exact ⟨0, 0, 1, Nat.zero_le _, by simp, Nat.zero_le _, rfl, by omega, by omega, H3.out⟩
    case round =>
      obtain ⟨k, m, nx, hk, rfl, hmk, rfl, hnx1, hnx2, hH⟩ := hrel
      clear H3
      have HH : Hid (EvH wr w g a n cap X (t + 6 + 8 * k) u3 k u4 m) := hH
      clear hH
      by_cases hlt : k < N
      · have hlt' : 0 < (N : Int) - (k : Int) := by omega
        go_wp2_with fail
        refine (pick_any _ _ _ _ _ _ _ _ (by omega) (by omega) HH.out.2.2.2.1).mono ?_
        rintro r wa ⟨ya, hya, rfl, hd⟩
        have HA : Hid (EvH wa w g a n cap X (t + 6 + 8 * k + 2) u3 k u4 m) := HH.out.draw hd hgw
        have hza : w.heap.size ≤ wa.heap.size := HA.out.2.2.2.2.2.2.2.1
        clear hd HH
        go_wp2_with fail
        refine (pick_any _ _ _ _ _ _ _ _ (by omega) (by omega) (HA.out.alloc _).2.2.2.1).mono ?_
        rintro r wb ⟨yb, hyb, rfl, hd⟩
        have HB : Hid (EvH wb w g a n cap X (t + 6 + 8 * k + 4) u3 k u4 m ∧ Bx wb wa.heap.size [.int .i64 1, .int .i64 ya, .int .i64 0]) := ⟨(HA.out.alloc _).draw hd hgw, (Bx.new wa [.int .i64 1, .int .i64 ya, .int .i64 0] 49).trn hd.2 (Or.inr (by omega))⟩
        have hl3 : ∀ b, u3.ownBlock = some b → b ≠ wa.heap.size := fun b hb => by have := (HA.out.lt3 b hb).2; omega
        have hl4 : ∀ b, u4.ownBlock = some b → b ≠ wa.heap.size := fun b hb => by have := (HA.out.lt4 b hb).2; omega
        have HL : Hid ((∀ b, u3.ownBlock = some b → b ≠ wa.heap.size) ∧ ∀ b, u4.ownBlock = some b → b ≠ wa.heap.size) := ⟨hl3, hl4⟩
        clear hd HA hl3 hl4
        have hb4 : yb = 0 ∨ yb = 1 ∨ yb = 2 ∨ yb = 3 := by omega
        clear hya
        rcases hb4 with rfl | rfl | rfl | rfl
        · have f0 := HB.out.2.frz 0 (by simp)
          have f2 := HB.out.2.frz 2 (by simp)
          have c0 := HB.out.2.cell 0 rfl
          have c2 := HB.out.2.cell 2 rfl
          have cl := HB.out.2.2
          have HM : Hid (EvH ((wb.setCell ⟨wa.heap.size, 0, none⟩ (.int .i64 2)).setCell ⟨wa.heap.size, 2, none⟩ (.int .i64 nx)) w g a n cap X (t + 6 + 8 * k + 4) u3 k u4 m ∧ Bx ((wb.setCell ⟨wa.heap.size, 0, none⟩ (.int .i64 2)).setCell ⟨wa.heap.size, 2, none⟩ (.int .i64 nx)) wa.heap.size [.int .i64 2, .int .i64 ya, .int .i64 nx]) := ⟨(HB.out.1.put hgw hza HL.out.1 HL.out.2).put hgw hza HL.out.1 HL.out.2, (HB.out.2.set (k := 0) (by simp) (.int .i64 2)).set (k := 2) (by simp) (.int .i64 nx)⟩
          obtain ⟨O, ho, hO⟩ := HM.out.1.2.1
          have HQ : Hid (((wb.setCell ⟨wa.heap.size, 0, none⟩ (.int .i64 2)).setCell ⟨wa.heap.size, 2, none⟩ (.int .i64 nx)).ownsRow w.heap.size 3 1 u4 m (cellsL (intF O) 1 m) ∧ ∀ i, i < m → 0 ≤ O i ∧ O i ≤ 1000) := ⟨ho, hO⟩
          have hzb : w.heap.size ≤ wb.heap.size := HB.out.1.2.2.2.2.2.2.2.1
          clear ho hO HB
          go_upto_region 23 with (first
            | (at_builtin; refine wpList_append_own_at _ rfl (.tmp 31) (.tmp 33) 25 rfl w.heap.size 3 j0 (.int .i64 0) 1 8 Try.underlying25 hj0 hy0 hy1 hy2 rfl (by decide) u4 m (cellsL (intF O) 1 m) rfl (World.ownsRow.alloc HQ.out.1 _) ⟨_, 0, none⟩ 1 1 [.int .i64 nx] rfl rfl (ev_at (by first | rfl | simp) _ _) (by intro u hu; simp at hu; subst hu; rfl) (by unfold maxLen; omega) (by omega) (by simp <;> omega) ?_; intro v5 w5 hown hgrow hnil hwhere)
            | go_in)
          have HT : Hid (EvH w5 w g a n cap X (t + 6 + 8 * (k + 1)) u3 k v5 (m + 1) ∧ Bx w5 wa.heap.size [.int .i64 2, .int .i64 ya, .int .i64 nx]) := ⟨((HM.out.1.alloc _).open4 hgw hgrow (InIn.snoc hown HQ.out.2 (by omega)) (by simpa using hwhere)).up (by omega), (HM.out.2.alloc _).gr hgrow (fun e => HL.out.2 _ e rfl)⟩
          clear hown hgrow hnil hwhere HQ HM f0 f2 c0 c2 cl
          obtain ⟨K, P, M, ho, hM⟩ := HT.out.1.1
          have HO : Hid ((w5).ownsRow w.heap.size 49 3 u3 k (cellsL (evF K P M) 3 k) ∧ ∀ i, i < k → 0 ≤ M i ∧ M i ≤ 1000) := ⟨ho, hM⟩
          have q0 := HT.out.2.cell 0 rfl
          have q1 := HT.out.2.cell 1 rfl
          have q2 := HT.out.2.cell 2 rfl
          have ql := HT.out.2.2
          have hzt : w.heap.size ≤ (w5).heap.size := HT.out.1.2.2.2.2.2.2.2.1
          clear ho hM
          go_wp2_with (first
            | (at_builtin; refine wpList_append_own_at _ rfl (.tmp 62) (.tmp 64) 23 rfl w.heap.size 49 i0 (.agg #[.int .i64 0, .int .i64 0, .int .i64 0]) 3 24 Try.underlying23 hi0 hz0 hz1 hz2 rfl (by decide) u3 k (cellsL (evF K P M) 3 k) rfl (World.ownsRow.alloc HO.out.1 _) ⟨_, 0, none⟩ 1 1 [.int .i64 2, .int .i64 ya, .int .i64 nx] rfl rfl (ev_at (by first | rfl | simp) _ _) (by intro u hu; simp at hu; rcases hu with rfl | rfl | rfl <;> rfl) (by unfold maxLen; omega) (by omega) (by simp <;> omega) ?_; intro v9 w9 hown hgrow hnil hwhere)
            | go_in)
          have HF : Hid (EvH w9 w g a n cap X (t + 6 + 8 * (k + 1)) v9 (k + 1) v5 (m + 1)) := ((HT.out.1.alloc _).list3 hgw hgrow (EvIn.snoc hown HO.out.2 (by omega)) (by simpa using hwhere)).up (by omega)
          clear hown hgrow hnil hwhere HO HT q0 q1 q2 ql
          go_wp2
          go_roundw
          case rel => exact ⟨k + 1, (m + 1), (nx + 1), by omega, by go_num, by omega, by go_num, by omega, by omega, HF.out⟩
          case measure => simp [intOf]; omega
        · have f0 := HB.out.2.frz 0 (by simp)
          have f2 := HB.out.2.frz 2 (by simp)
          have c0 := HB.out.2.cell 0 rfl
          have c2 := HB.out.2.cell 2 rfl
          have cl := HB.out.2.2
          have HM : Hid (EvH ((wb.setCell ⟨wa.heap.size, 0, none⟩ (.int .i64 2)).setCell ⟨wa.heap.size, 2, none⟩ (.int .i64 nx)) w g a n cap X (t + 6 + 8 * k + 4) u3 k u4 m ∧ Bx ((wb.setCell ⟨wa.heap.size, 0, none⟩ (.int .i64 2)).setCell ⟨wa.heap.size, 2, none⟩ (.int .i64 nx)) wa.heap.size [.int .i64 2, .int .i64 ya, .int .i64 nx]) := ⟨(HB.out.1.put hgw hza HL.out.1 HL.out.2).put hgw hza HL.out.1 HL.out.2, (HB.out.2.set (k := 0) (by simp) (.int .i64 2)).set (k := 2) (by simp) (.int .i64 nx)⟩
          obtain ⟨O, ho, hO⟩ := HM.out.1.2.1
          have HQ : Hid (((wb.setCell ⟨wa.heap.size, 0, none⟩ (.int .i64 2)).setCell ⟨wa.heap.size, 2, none⟩ (.int .i64 nx)).ownsRow w.heap.size 3 1 u4 m (cellsL (intF O) 1 m) ∧ ∀ i, i < m → 0 ≤ O i ∧ O i ≤ 1000) := ⟨ho, hO⟩
          have hzb : w.heap.size ≤ wb.heap.size := HB.out.1.2.2.2.2.2.2.2.1
          clear ho hO HB
          go_upto_region 23 with (first
            | (at_builtin; refine wpList_append_own_at _ rfl (.tmp 31) (.tmp 33) 25 rfl w.heap.size 3 j0 (.int .i64 0) 1 8 Try.underlying25 hj0 hy0 hy1 hy2 rfl (by decide) u4 m (cellsL (intF O) 1 m) rfl (World.ownsRow.alloc HQ.out.1 _) ⟨_, 0, none⟩ 1 1 [.int .i64 nx] rfl rfl (ev_at (by first | rfl | simp) _ _) (by intro u hu; simp at hu; subst hu; rfl) (by unfold maxLen; omega) (by omega) (by simp <;> omega) ?_; intro v5 w5 hown hgrow hnil hwhere)
            | go_in)
          have HT : Hid (EvH w5 w g a n cap X (t + 6 + 8 * (k + 1)) u3 k v5 (m + 1) ∧ Bx w5 wa.heap.size [.int .i64 2, .int .i64 ya, .int .i64 nx]) := ⟨((HM.out.1.alloc _).open4 hgw hgrow (InIn.snoc hown HQ.out.2 (by omega)) (by simpa using hwhere)).up (by omega), (HM.out.2.alloc _).gr hgrow (fun e => HL.out.2 _ e rfl)⟩
          clear hown hgrow hnil hwhere HQ HM f0 f2 c0 c2 cl
          obtain ⟨K, P, M, ho, hM⟩ := HT.out.1.1
          have HO : Hid ((w5).ownsRow w.heap.size 49 3 u3 k (cellsL (evF K P M) 3 k) ∧ ∀ i, i < k → 0 ≤ M i ∧ M i ≤ 1000) := ⟨ho, hM⟩
          have q0 := HT.out.2.cell 0 rfl
          have q1 := HT.out.2.cell 1 rfl
          have q2 := HT.out.2.cell 2 rfl
          have ql := HT.out.2.2
          have hzt : w.heap.size ≤ (w5).heap.size := HT.out.1.2.2.2.2.2.2.2.1
          clear ho hM
          go_wp2_with (first
            | (at_builtin; refine wpList_append_own_at _ rfl (.tmp 62) (.tmp 64) 23 rfl w.heap.size 49 i0 (.agg #[.int .i64 0, .int .i64 0, .int .i64 0]) 3 24 Try.underlying23 hi0 hz0 hz1 hz2 rfl (by decide) u3 k (cellsL (evF K P M) 3 k) rfl (World.ownsRow.alloc HO.out.1 _) ⟨_, 0, none⟩ 1 1 [.int .i64 2, .int .i64 ya, .int .i64 nx] rfl rfl (ev_at (by first | rfl | simp) _ _) (by intro u hu; simp at hu; rcases hu with rfl | rfl | rfl <;> rfl) (by unfold maxLen; omega) (by omega) (by simp <;> omega) ?_; intro v9 w9 hown hgrow hnil hwhere)
            | go_in)
          have HF : Hid (EvH w9 w g a n cap X (t + 6 + 8 * (k + 1)) v9 (k + 1) v5 (m + 1)) := ((HT.out.1.alloc _).list3 hgw hgrow (EvIn.snoc hown HO.out.2 (by omega)) (by simpa using hwhere)).up (by omega)
          clear hown hgrow hnil hwhere HO HT q0 q1 q2 ql
          go_wp2
          go_roundw
          case rel => exact ⟨k + 1, (m + 1), (nx + 1), by omega, by go_num, by omega, by go_num, by omega, by omega, HF.out⟩
          case measure => simp [intOf]; omega
        · by_cases hm0 : 0 < m
          · obtain ⟨O, ho, hO⟩ := HB.out.1.2.1
            obtain ⟨g4, cap4, rfl⟩ := Go.Joins.ownsRow_form ho hm0
            have hmc : m ≤ cap4 ∧ cap4 ≤ maxLen := by
              obtain ⟨_, h | ⟨g', cap', cur, hv, _, _, hn, hm, _⟩⟩ := ho
              · exact absurd h.1 (by simp)
              · simp only [Value.slice.injEq, true_and] at hv
                rw [hv.2]; exact ⟨hn, hm⟩
            unfold maxLen at hmc
            have hm0' : (0 : Int) < (m : Int) := by omega
            clear ho
            go_wp2_with fail
            refine (pick_any _ _ _ _ _ _ _ _ (by omega) (by omega) HB.out.1.2.2.2.1).mono ?_
            rintro r w5 ⟨x5, hx5, rfl, hd⟩
            obtain ⟨q, hq, hqx⟩ : ∃ q : Nat, q < m ∧ x5 = (q : Int) := ⟨x5.toNat, by omega, by omega⟩
            subst hqx
            have h5 : EvH w5 w g a n cap X (t + 6 + 8 * k + 6) u3 k (.slice (some ⟨g4, 0, none⟩) m cap4) m := HB.out.1.draw hd hgw
            have hb5 : Bx w5 wa.heap.size [.int .i64 1, .int .i64 ya, .int .i64 0] := HB.out.2.trn hd.2 (Or.inr (by omega))
            clear hd HB hx5 hO
            obtain ⟨O, ho, hO⟩ := h5.2.1
            have hcq := row_ints ho hq
            have hOq := hO q hq
            have hg4 : g4 ≠ wa.heap.size := HL.out.2 g4 rfl
            have hg4l : g4 < w5.heap.size := (ho.lt g4 rfl).2
            obtain ⟨oq, hoq⟩ : ∃ oq, oq = O q := ⟨_, rfl⟩
            rw [← hoq] at hcq hOq
            have f0 := hb5.frz 0 (by simp)
            have f2 := hb5.frz 2 (by simp)
            have c0 := hb5.cell 0 rfl
            have c2 := hb5.cell 2 rfl
            have cl := hb5.2
            obtain ⟨w6, hw6⟩ : ∃ w6, w6 = (w5.setCell ⟨wa.heap.size, 0, none⟩ (.int .i64 3)).setCell ⟨wa.heap.size, 2, none⟩ (.int .i64 oq) := ⟨_, rfl⟩
            have hcq' : (w5.setCell ⟨wa.heap.size, 0, none⟩ (.int .i64 3)).cell? ⟨g4, q, none⟩ = some (.int .i64 oq) := by rw [World.cell?_setCell_other _ _ _ _ (addr_ne' (fun e => hg4 e.symm))]; exact hcq
            have h6 : EvH w6 w g a n cap X (t + 6 + 8 * k + 6) u3 k (.slice (some ⟨g4, 0, none⟩) m cap4) m ∧ Bx w6 wa.heap.size [.int .i64 3, .int .i64 ya, .int .i64 oq] := by
              rw [hw6]
              exact ⟨(h5.put hgw hza HL.out.1 HL.out.2).put hgw hza HL.out.1 HL.out.2, (hb5.set (k := 0) (by simp) (.int .i64 3)).set (k := 2) (by simp) (.int .i64 oq)⟩
            have hz6 : w.heap.size ≤ w6.heap.size := h6.1.2.2.2.2.2.2.2.1
            have H6 : Hid (EvH w6.drew w g a n cap X (t + 6 + 8 * k + 6) u3 k (.slice (some ⟨g4, 0, none⟩) m cap4) m ∧ Bx w6.drew wa.heap.size [.int .i64 3, .int .i64 ya, .int .i64 oq]) := ⟨h6.1.next (Below.refl _ _).drew, h6.2.next (Below.refl _ _).drew⟩
            have hbl6 : wa.heap.size < w6.heap.size := h6.2.2
            clear h5 hb5 ho hO h6 hoq
            have hqm : (q : Int) < (m : Int) := by omega
            have hqc : (q : Int) ≤ (cap4 : Int) := by omega
            have hqm1 : (q : Int) + 1 ≤ (m : Int) := by omega
            have hqn : q ≤ m := by omega
            have hq0 : (0 : Int) ≤ (q : Int) + 1 := by omega
            have hq1 : (q : Int) ≤ (q : Int) + 1 := by omega
            have hqw : IntKind.i64.wrap ((q : Int) + 1) = (q : Int) + 1 := by rw [IntKind.wrap_i64]; omega
            have hqt : ((q : Int) + 1).toNat = q + 1 := by omega
            go_upto_region 22 with fail
            rw [← hw6]
            clear hw6 c0 c2 f0 f2 cl hcq hcq'
            obtain ⟨O2, ho2, hO2⟩ := H6.out.1.2.1
            have HO2 : Hid (w6.drew.ownsRow w.heap.size 3 1 (.slice (some ⟨g4, 0, none⟩) m cap4) m (cellsL (intF O2) 1 m) ∧ ∀ i, i < m → 0 ≤ O2 i ∧ O2 i ≤ 1000) := ⟨ho2, hO2⟩
            have HN1 : Hid (∀ W : World, W.ownsRow w.heap.size 3 1 (.slice (some ⟨g4, 0, none⟩) m cap4) m (cellsL (intF O2) 1 m) → ∀ j u, (((List.range q).map O2).map (Value.int .i64))[j]? = some u → W.cell? ((⟨g4, 0, none⟩ : Addr).add j) = some u) := fun W hW j u hj => by
              have hjq : j < q := by
                rcases Nat.lt_or_ge j q with h | h
                · exact h
                · rw [List.getElem?_eq_none (by simpa using h)] at hj; cases hj
              rw [addr_add, Nat.zero_add, row_ints hW (by omega)]
              simpa [hjq] using hj
            have HN2 : Hid (∀ W : World, W.ownsRow w.heap.size 3 1 (.slice (some ⟨g4, 0, none⟩) m cap4) m (cellsL (intF O2) 1 m) → ∀ j u, (((List.range (m - (q + 1))).map fun i => O2 (q + 1 + i)).map (Value.int .i64))[j]? = some u → W.cell? ((⟨g4, q + 1, none⟩ : Addr).add j) = some u) := fun W hW j u hj => by
              have hjq : j < m - (q + 1) := by
                rcases Nat.lt_or_ge j (m - (q + 1)) with h | h
                · exact h
                · rw [List.getElem?_eq_none (by simpa using h)] at hj; cases hj
              rw [addr_add, row_ints hW (by omega)]
              simpa [hjq] using hj
            clear ho2 hO2
            by_cases hcap : cap4 = q + 1
            · subst hcap
              refine wp_region_noPanic ?_
              refine wp_region_held_drew (S := fun _ => True) (by kernel_rfl) trivial (fun hHeld => ?_)
              refine take_v (v := ?_) 1 ⟨some 53, Op.move (Operand.tmp 4), _, _, _, none⟩ rfl (fun _ _ _ h => h) ?_ hHeld ?_
              rotate_left
              · (intro W _; go_simp <;> (try with_reducible rfl))
              refine take_v (v := ?_) 2 ⟨some 54, Op.move (Operand.tmp 8), _, _, _, none⟩ rfl (fun _ _ _ h => h) ?_ hHeld ?_
              rotate_left
              · (intro W _; go_simp <;> (try with_reducible rfl))
              refine take_v (v := ?_) 3 ⟨some 55, Op.slice 25 (Operand.tmp 53) none (some (Operand.tmp 54)) none, _, _, _, none⟩ rfl (fun _ _ _ h => h) ?_ hHeld ?_
              rotate_left
              · (intro W _; go_simp <;> (try with_reducible rfl))
              refine take_v (v := ?_) 5 ⟨some 57, Op.move (Operand.tmp 4), _, _, _, none⟩ rfl (fun _ _ _ h => h) ?_ hHeld ?_
              rotate_left
              · (intro W _; go_simp <;> (try with_reducible rfl))
              refine take_v (v := ?_) 6 ⟨some 58, Op.move (Operand.tmp 8), _, _, _, none⟩ rfl (fun _ _ _ h => h) ?_ hHeld ?_
              rotate_left
              · (intro W _; go_simp <;> (try with_reducible rfl))
              refine take_v (v := ?_) 7 ⟨some 59, Op.binOp BinOp.add 3 (Operand.tmp 58) (Operand.const (Value.int IntKind.i64 1)) 3, _, _, _, none⟩ rfl (fun _ _ _ h => h) ?_ hHeld ?_
              rotate_left
              · (intro W _; go_simp <;> (try with_reducible rfl))
              refine take_v (v := ?_) 8 ⟨some 60, Op.slice 25 (Operand.tmp 57) (some (Operand.tmp 59)) none none, _, _, _, none⟩ rfl (fun _ _ _ h => h) ?_ hHeld ?_
              rotate_left
              · (intro W _; go_simp <;> (try with_reducible rfl))
              refine ready_call 0 ⟨some 52, Op.buildSlice 25 0 #[], _, _, _, none⟩ (by kernel_rfl) rfl (by kernel_rfl) (fun K hK => ?_)
              go_wp2_with fail
              refine hK.out _ _ trivial (fun hHeld => ?_)
              clear hK K
              refine ready_call 4 ⟨some 56, Op.call { callee := Callee.builtin Builtin.append, args := #[Operand.tmp 52, Operand.tmp 55], argTypes := #[25, 25] }, _, _, _, none⟩ (by kernel_rfl) rfl (by kernel_rfl) (fun K hK => ?_)
              refine wp_append_any _ (.tmp 52) (.tmp 55) 25 (by rfl) w.heap.size 3 j0 (.int .i64 0) 1 8 Try.underlying25 hj0 hy0 hy1 hy2 rfl (by decide) (.slice (some ⟨w6.heap.size, 0, none⟩) 0 0) 0 [] (by rfl) (World.ownsRow_lit w6.drew #[] 0 hz6 (by unfold maxLen; omega) rfl) ⟨g4, 0, none⟩ q (q + 1) (((List.range q).map O2).map (Value.int .i64)) (by rfl) (by simp) (HN1.out _ (World.ownsRow.alloc HO2.out.1 _)) (by intro u hu; simp at hu; obtain ⟨y, _, rfl⟩ := hu; rfl) (by unfold maxLen; omega) (by omega) (by simp; exact Nat.le_trans hz6 (Nat.le_succ _)) ?_
              intro v7 w7 hown7 hgr7 hwh7
              refine hK.out _ _ trivial (fun hHeld => ?_)
              clear hK K
              refine ready_call 9 ⟨some 61, Op.call { callee := Callee.builtin Builtin.append, args := #[Operand.tmp 56, Operand.tmp 60], argTypes := #[25, 25] }, _, _, _, none⟩ (by kernel_rfl) rfl (by kernel_rfl) (fun K hK => ?_)
              have ho7 : w7.ownsRow w.heap.size 3 1 (.slice (some ⟨g4, 0, none⟩) m (q + 1)) m (cellsL (intF O2) 1 m) := own_gr (World.ownsRow.alloc HO2.out.1 _) hgr7 (fun b hb e => by have h1 := (HO2.out.1.lt b hb).2; cases e; exact absurd h1 (Nat.lt_irrefl _))
              refine wp_append_any _ (.tmp 56) (.tmp 60) 25 (by rfl) w.heap.size 3 j0 (.int .i64 0) 1 8 Try.underlying25 hj0 hy0 hy1 hy2 rfl (by decide) v7 (0 + q) ([] ++ ((List.range q).map O2).map (Value.int .i64)) (by rfl) hown7 ⟨g4, 0, none⟩ 0 _ (((List.range 0).map fun i => O2 (q + 1 + i)).map (Value.int .i64)) (by rfl) (by simp) (fun j u hj => by simp at hj) (by intro u hu; simp at hu) (by unfold maxLen; omega) (by omega) (Nat.le_trans hz6 (Nat.le_trans (Nat.le_succ _) (by have h9 : (w6.alloc (.cells #[] 3)).heap.size ≤ w7.heap.size := hgr7.size; rw [World.size_alloc] at h9; exact h9))) ?_
              intro v8 w8 hown8 hgr8 hwh8
              refine hK.out _ _ trivial (fun hHeld => ?_)
              clear hK K
              refine take_v (v := ?_) 10 ⟨some 4, Op.assign (Operand.tmp 61), _, _, _, none⟩ rfl (fun _ _ _ h => h) ?_ hHeld ?_
              rotate_left
              · (intro W _; go_simp <;> (try with_reducible rfl))
              refine wpAnyH_done (by kernel_rfl) ?_ _
              refine NoPanic.normal ?_
              have HT : Hid (EvH w8 w g a n cap X (t + 6 + 8 * (k + 1)) u3 k v8 (m - 1) ∧ Bx w8 wa.heap.size [.int .i64 3, .int .i64 ya, .int .i64 oq]) := by
                have hw1 : v7.ownBlock = some w6.drew.heap.size ∨ v7.ownBlock = some (w6.drew.heap.size + 1) := by
                  rcases hwh7 with h | h
                  · exact Or.inl h
                  · have h' : v7.ownBlock = some (w6.alloc (.cells #[] 3)).heap.size := h
                    rw [World.size_alloc] at h'; exact Or.inr h'
                refine ⟨(H6.out.1.swap hgw hz6 hgr7 hw1 hgr8 hwh8 ?_).up (by omega), ((H6.out.2.alloc _).gr hgr7 (fun e => by have e' : w6.heap.size = wa.heap.size := Option.some.inj e; omega)).gr hgr8 (fun e => ?_)⟩
                · have hl : ((List.range q).map O2 ++ (List.range 0).map fun i => O2 (q + 1 + i)).length = m - 1 := by simp; omega
                  have := InIn.of (w := w8) (base := w.heap.size) (v := v8) (xs := (List.range q).map O2 ++ (List.range 0).map fun i => O2 (q + 1 + i)) (by
                    rw [hl, List.map_append]
                    have e1 : 0 + q + 0 = m - 1 := by omega
                    rw [e1] at hown8
                    simpa using hown8) (fun x hx => by
                      simp only [List.mem_append, List.mem_map, List.mem_range] at hx
                      rcases hx with ⟨i, hi, rfl⟩ | ⟨i, hi, rfl⟩
                      · exact HO2.out.2 i (by omega)
                      · exact HO2.out.2 (q + 1 + i) (by omega))
                  rw [hl] at this; exact this
                · rcases hw1 with h | h
                  · rw [h] at e
                    have e' : w6.heap.size = wa.heap.size := Option.some.inj e
                    omega
                  · rw [h] at e
                    have e' : w6.heap.size + 1 = wa.heap.size := Option.some.inj e
                    omega
              clear hown7 hgr7 hwh7 ho7 hown8 hgr8 hwh8 H6 HO2 HN1 HN2
              obtain ⟨K, P, M, ho, hM⟩ := HT.out.1.1
              have HO : Hid ((w8).ownsRow w.heap.size 49 3 u3 k (cellsL (evF K P M) 3 k) ∧ ∀ i, i < k → 0 ≤ M i ∧ M i ≤ 1000) := ⟨ho, hM⟩
              have q0 := HT.out.2.cell 0 rfl
              have q1 := HT.out.2.cell 1 rfl
              have q2 := HT.out.2.cell 2 rfl
              have ql := HT.out.2.2
              have hzt : w.heap.size ≤ (w8).heap.size := HT.out.1.2.2.2.2.2.2.2.1
              clear ho hM
              go_wp2_with (first
                | (at_builtin; refine wpList_append_own_at _ rfl (.tmp 62) (.tmp 64) 23 rfl w.heap.size 49 i0 (.agg #[.int .i64 0, .int .i64 0, .int .i64 0]) 3 24 Try.underlying23 hi0 hz0 hz1 hz2 rfl (by decide) u3 k (cellsL (evF K P M) 3 k) rfl (World.ownsRow.alloc HO.out.1 _) ⟨_, 0, none⟩ 1 1 [.int .i64 3, .int .i64 ya, .int .i64 oq] rfl rfl (ev_at (by first | rfl | simp) _ _) (by intro u hu; simp at hu; rcases hu with rfl | rfl | rfl <;> rfl) (by unfold maxLen; omega) (by omega) (by simp <;> omega) ?_; intro v9 w9 hown hgrow hnil hwhere)
                | go_in)
              have HF : Hid (EvH w9 w g a n cap X (t + 6 + 8 * (k + 1)) v9 (k + 1) v8 (m - 1)) := ((HT.out.1.alloc _).list3 hgw hgrow (EvIn.snoc hown HO.out.2 hOq) (by simpa using hwhere)).up (by omega)
              clear hown hgrow hnil hwhere HO HT q0 q1 q2 ql
              go_wp2
              go_roundw
              case rel => exact ⟨k + 1, (m - 1), nx, by omega, by go_num, by omega, rfl, by omega, by omega, HF.out⟩
              case measure => simp [intOf]; omega
            · skip
              refine wp_region_noPanic ?_
              refine wp_region_held_drew (S := fun _ => True) (by kernel_rfl) trivial (fun hHeld => ?_)
              refine take_v (v := ?_) 1 ⟨some 53, Op.move (Operand.tmp 4), _, _, _, none⟩ rfl (fun _ _ _ h => h) ?_ hHeld ?_
              rotate_left
              · (intro W _; go_simp <;> (try with_reducible rfl))
              refine take_v (v := ?_) 2 ⟨some 54, Op.move (Operand.tmp 8), _, _, _, none⟩ rfl (fun _ _ _ h => h) ?_ hHeld ?_
              rotate_left
              · (intro W _; go_simp <;> (try with_reducible rfl))
              refine take_v (v := ?_) 3 ⟨some 55, Op.slice 25 (Operand.tmp 53) none (some (Operand.tmp 54)) none, _, _, _, none⟩ rfl (fun _ _ _ h => h) ?_ hHeld ?_
              rotate_left
              · (intro W _; go_simp <;> (try with_reducible rfl))
              refine take_v (v := ?_) 5 ⟨some 57, Op.move (Operand.tmp 4), _, _, _, none⟩ rfl (fun _ _ _ h => h) ?_ hHeld ?_
              rotate_left
              · (intro W _; go_simp <;> (try with_reducible rfl))
              refine take_v (v := ?_) 6 ⟨some 58, Op.move (Operand.tmp 8), _, _, _, none⟩ rfl (fun _ _ _ h => h) ?_ hHeld ?_
              rotate_left
              · (intro W _; go_simp <;> (try with_reducible rfl))
              refine take_v (v := ?_) 7 ⟨some 59, Op.binOp BinOp.add 3 (Operand.tmp 58) (Operand.const (Value.int IntKind.i64 1)) 3, _, _, _, none⟩ rfl (fun _ _ _ h => h) ?_ hHeld ?_
              rotate_left
              · (intro W _; go_simp <;> (try with_reducible rfl))
              refine take_v (v := ?_) 8 ⟨some 60, Op.slice 25 (Operand.tmp 57) (some (Operand.tmp 59)) none none, _, _, _, none⟩ rfl (fun _ _ _ h => h) ?_ hHeld ?_
              rotate_left
              · (intro W _; go_simp <;> (try with_reducible rfl))
              refine ready_call 0 ⟨some 52, Op.buildSlice 25 0 #[], _, _, _, none⟩ (by kernel_rfl) rfl (by kernel_rfl) (fun K hK => ?_)
              go_wp2_with fail
              refine hK.out _ _ trivial (fun hHeld => ?_)
              clear hK K
              refine ready_call 4 ⟨some 56, Op.call { callee := Callee.builtin Builtin.append, args := #[Operand.tmp 52, Operand.tmp 55], argTypes := #[25, 25] }, _, _, _, none⟩ (by kernel_rfl) rfl (by kernel_rfl) (fun K hK => ?_)
              refine wp_append_any _ (.tmp 52) (.tmp 55) 25 (by rfl) w.heap.size 3 j0 (.int .i64 0) 1 8 Try.underlying25 hj0 hy0 hy1 hy2 rfl (by decide) (.slice (some ⟨w6.heap.size, 0, none⟩) 0 0) 0 [] (by rfl) (World.ownsRow_lit w6.drew #[] 0 hz6 (by unfold maxLen; omega) rfl) ⟨g4, 0, none⟩ q cap4 (((List.range q).map O2).map (Value.int .i64)) (by rfl) (by simp) (HN1.out _ (World.ownsRow.alloc HO2.out.1 _)) (by intro u hu; simp at hu; obtain ⟨y, _, rfl⟩ := hu; rfl) (by unfold maxLen; omega) (by omega) (by simp; exact Nat.le_trans hz6 (Nat.le_succ _)) ?_
              intro v7 w7 hown7 hgr7 hwh7
              refine hK.out _ _ trivial (fun hHeld => ?_)
              clear hK K
              refine ready_call 9 ⟨some 61, Op.call { callee := Callee.builtin Builtin.append, args := #[Operand.tmp 56, Operand.tmp 60], argTypes := #[25, 25] }, _, _, _, none⟩ (by kernel_rfl) rfl (by kernel_rfl) (fun K hK => ?_)
              have ho7 : w7.ownsRow w.heap.size 3 1 (.slice (some ⟨g4, 0, none⟩) m cap4) m (cellsL (intF O2) 1 m) := own_gr (World.ownsRow.alloc HO2.out.1 _) hgr7 (fun b hb e => by have h1 := (HO2.out.1.lt b hb).2; cases e; exact absurd h1 (Nat.lt_irrefl _))
              refine wp_append_any _ (.tmp 56) (.tmp 60) 25 (by rfl) w.heap.size 3 j0 (.int .i64 0) 1 8 Try.underlying25 hj0 hy0 hy1 hy2 rfl (by decide) v7 (0 + q) ([] ++ ((List.range q).map O2).map (Value.int .i64)) (by rfl) hown7 ⟨g4, q + 1, none⟩ (m - (q + 1)) _ (((List.range (m - (q + 1))).map fun i => O2 (q + 1 + i)).map (Value.int .i64)) (by rfl) (by simp) (HN2.out _ ho7) (by intro u hu; simp at hu; obtain ⟨y, _, rfl⟩ := hu; rfl) (by unfold maxLen; omega) (by omega) (Nat.le_trans hz6 (Nat.le_trans (Nat.le_succ _) (by have h9 : (w6.alloc (.cells #[] 3)).heap.size ≤ w7.heap.size := hgr7.size; rw [World.size_alloc] at h9; exact h9))) ?_
              intro v8 w8 hown8 hgr8 hwh8
              refine hK.out _ _ trivial (fun hHeld => ?_)
              clear hK K
              refine take_v (v := ?_) 10 ⟨some 4, Op.assign (Operand.tmp 61), _, _, _, none⟩ rfl (fun _ _ _ h => h) ?_ hHeld ?_
              rotate_left
              · (intro W _; go_simp <;> (try with_reducible rfl))
              refine wpAnyH_done (by kernel_rfl) ?_ _
              refine NoPanic.normal ?_
              have HT : Hid (EvH w8 w g a n cap X (t + 6 + 8 * (k + 1)) u3 k v8 (m - 1) ∧ Bx w8 wa.heap.size [.int .i64 3, .int .i64 ya, .int .i64 oq]) := by
                have hw1 : v7.ownBlock = some w6.drew.heap.size ∨ v7.ownBlock = some (w6.drew.heap.size + 1) := by
                  rcases hwh7 with h | h
                  · exact Or.inl h
                  · have h' : v7.ownBlock = some (w6.alloc (.cells #[] 3)).heap.size := h
                    rw [World.size_alloc] at h'; exact Or.inr h'
                refine ⟨(H6.out.1.swap hgw hz6 hgr7 hw1 hgr8 hwh8 ?_).up (by omega), ((H6.out.2.alloc _).gr hgr7 (fun e => by have e' : w6.heap.size = wa.heap.size := Option.some.inj e; omega)).gr hgr8 (fun e => ?_)⟩
                · have hl : ((List.range q).map O2 ++ (List.range (m - (q + 1))).map fun i => O2 (q + 1 + i)).length = m - 1 := by simp; omega
                  have := InIn.of (w := w8) (base := w.heap.size) (v := v8) (xs := (List.range q).map O2 ++ (List.range (m - (q + 1))).map fun i => O2 (q + 1 + i)) (by
                    rw [hl, List.map_append]
                    have e1 : 0 + q + (m - (q + 1)) = m - 1 := by omega
                    rw [e1] at hown8
                    simpa using hown8) (fun x hx => by
                      simp only [List.mem_append, List.mem_map, List.mem_range] at hx
                      rcases hx with ⟨i, hi, rfl⟩ | ⟨i, hi, rfl⟩
                      · exact HO2.out.2 i (by omega)
                      · exact HO2.out.2 (q + 1 + i) (by omega))
                  rw [hl] at this; exact this
                · rcases hw1 with h | h
                  · rw [h] at e
                    have e' : w6.heap.size = wa.heap.size := Option.some.inj e
                    omega
                  · rw [h] at e
                    have e' : w6.heap.size + 1 = wa.heap.size := Option.some.inj e
                    omega
              clear hown7 hgr7 hwh7 ho7 hown8 hgr8 hwh8 H6 HO2 HN1 HN2
              obtain ⟨K, P, M, ho, hM⟩ := HT.out.1.1
              have HO : Hid ((w8).ownsRow w.heap.size 49 3 u3 k (cellsL (evF K P M) 3 k) ∧ ∀ i, i < k → 0 ≤ M i ∧ M i ≤ 1000) := ⟨ho, hM⟩
              have q0 := HT.out.2.cell 0 rfl
              have q1 := HT.out.2.cell 1 rfl
              have q2 := HT.out.2.cell 2 rfl
              have ql := HT.out.2.2
              have hzt : w.heap.size ≤ (w8).heap.size := HT.out.1.2.2.2.2.2.2.2.1
              clear ho hM
              go_wp2_with (first
                | (at_builtin; refine wpList_append_own_at _ rfl (.tmp 62) (.tmp 64) 23 rfl w.heap.size 49 i0 (.agg #[.int .i64 0, .int .i64 0, .int .i64 0]) 3 24 Try.underlying23 hi0 hz0 hz1 hz2 rfl (by decide) u3 k (cellsL (evF K P M) 3 k) rfl (World.ownsRow.alloc HO.out.1 _) ⟨_, 0, none⟩ 1 1 [.int .i64 3, .int .i64 ya, .int .i64 oq] rfl rfl (ev_at (by first | rfl | simp) _ _) (by intro u hu; simp at hu; rcases hu with rfl | rfl | rfl <;> rfl) (by unfold maxLen; omega) (by omega) (by simp <;> omega) ?_; intro v9 w9 hown hgrow hnil hwhere)
                | go_in)
              have HF : Hid (EvH w9 w g a n cap X (t + 6 + 8 * (k + 1)) v9 (k + 1) v8 (m - 1)) := ((HT.out.1.alloc _).list3 hgw hgrow (EvIn.snoc hown HO.out.2 hOq) (by simpa using hwhere)).up (by omega)
              clear hown hgrow hnil hwhere HO HT q0 q1 q2 ql
              go_wp2
              go_roundw
              case rel => exact ⟨k + 1, (m - 1), nx, by omega, by go_num, by omega, rfl, by omega, by omega, HF.out⟩
              case measure => simp [intOf]; omega
          · have hm0' : ¬ (0 : Int) < (m : Int) := by omega
            have hu4 : ∃ a4 c4, u4 = .slice a4 m c4 := by
              obtain ⟨O, ho, _⟩ := HB.out.1.2.1
              obtain ⟨a4, c4, e4, _⟩ := SRow.of ho
              exact ⟨a4, c4, e4⟩
            obtain ⟨a4, c4, rfl⟩ := hu4
            have HT : Hid (EvH wb w g a n cap X (t + 6 + 8 * (k + 1)) u3 k (.slice a4 m c4) m ∧ Bx wb wa.heap.size [.int .i64 1, .int .i64 ya, .int .i64 0]) := ⟨HB.out.1.up (by omega), HB.out.2⟩
            clear HB
            obtain ⟨K, P, M, ho, hM⟩ := HT.out.1.1
            have HO : Hid ((wb).ownsRow w.heap.size 49 3 u3 k (cellsL (evF K P M) 3 k) ∧ ∀ i, i < k → 0 ≤ M i ∧ M i ≤ 1000) := ⟨ho, hM⟩
            have q0 := HT.out.2.cell 0 rfl
            have q1 := HT.out.2.cell 1 rfl
            have q2 := HT.out.2.cell 2 rfl
            have ql := HT.out.2.2
            have hzt : w.heap.size ≤ (wb).heap.size := HT.out.1.2.2.2.2.2.2.2.1
            clear ho hM
            go_wp2_with (first
              | (at_builtin; refine wpList_append_own_at _ rfl (.tmp 62) (.tmp 64) 23 rfl w.heap.size 49 i0 (.agg #[.int .i64 0, .int .i64 0, .int .i64 0]) 3 24 Try.underlying23 hi0 hz0 hz1 hz2 rfl (by decide) u3 k (cellsL (evF K P M) 3 k) rfl (World.ownsRow.alloc HO.out.1 _) ⟨_, 0, none⟩ 1 1 [.int .i64 1, .int .i64 ya, .int .i64 0] rfl rfl (ev_at (by first | rfl | simp) _ _) (by intro u hu; simp at hu; rcases hu with rfl | rfl | rfl <;> rfl) (by unfold maxLen; omega) (by omega) (by simp <;> omega) ?_; intro v9 w9 hown hgrow hnil hwhere)
              | go_in)
            have HF : Hid (EvH w9 w g a n cap X (t + 6 + 8 * (k + 1)) v9 (k + 1) (.slice a4 m c4) m) := ((HT.out.1.alloc _).list3 hgw hgrow (EvIn.snoc hown HO.out.2 (by omega)) (by simpa using hwhere)).up (by omega)
            clear hown hgrow hnil hwhere HO HT q0 q1 q2 ql
            go_wp2
            go_roundw
            case rel => exact ⟨k + 1, m, nx, by omega, by go_num, by omega, rfl, by omega, by omega, HF.out⟩
            case measure => simp [intOf]; omega
        · have HT : Hid (EvH wb w g a n cap X (t + 6 + 8 * (k + 1)) u3 k u4 m ∧ Bx wb wa.heap.size [.int .i64 1, .int .i64 ya, .int .i64 0]) := ⟨HB.out.1.up (by omega), HB.out.2⟩
          clear HB
          obtain ⟨K, P, M, ho, hM⟩ := HT.out.1.1
          have HO : Hid ((wb).ownsRow w.heap.size 49 3 u3 k (cellsL (evF K P M) 3 k) ∧ ∀ i, i < k → 0 ≤ M i ∧ M i ≤ 1000) := ⟨ho, hM⟩
          have q0 := HT.out.2.cell 0 rfl
          have q1 := HT.out.2.cell 1 rfl
          have q2 := HT.out.2.cell 2 rfl
          have ql := HT.out.2.2
          have hzt : w.heap.size ≤ (wb).heap.size := HT.out.1.2.2.2.2.2.2.2.1
          clear ho hM
          go_wp2_with (first
            | (at_builtin; refine wpList_append_own_at _ rfl (.tmp 62) (.tmp 64) 23 rfl w.heap.size 49 i0 (.agg #[.int .i64 0, .int .i64 0, .int .i64 0]) 3 24 Try.underlying23 hi0 hz0 hz1 hz2 rfl (by decide) u3 k (cellsL (evF K P M) 3 k) rfl (World.ownsRow.alloc HO.out.1 _) ⟨_, 0, none⟩ 1 1 [.int .i64 1, .int .i64 ya, .int .i64 0] rfl rfl (ev_at (by first | rfl | simp) _ _) (by intro u hu; simp at hu; rcases hu with rfl | rfl | rfl <;> rfl) (by unfold maxLen; omega) (by omega) (by simp <;> omega) ?_; intro v9 w9 hown hgrow hnil hwhere)
            | go_in)
          have HF : Hid (EvH w9 w g a n cap X (t + 6 + 8 * (k + 1)) v9 (k + 1) u4 m) := ((HT.out.1.alloc _).list3 hgw hgrow (EvIn.snoc hown HO.out.2 (by omega)) (by simpa using hwhere)).up (by omega)
          clear hown hgrow hnil hwhere HO HT q0 q1 q2 ql
          go_wp2
          go_roundw
          case rel => exact ⟨k + 1, m, nx, by omega, by go_num, by omega, rfl, by omega, by omega, HF.out⟩
          case measure => simp [intOf]; omega
      · have hkn : k = N := by omega
        subst hkn
        have hlt' : ¬ 0 < (k : Int) - (k : Int) := by omega
        have HP : Hid (∀ (v : Value) (q : Nat) (W : World), q ≤ 62 → EvIn W w.heap.size v q → Drew g a n cap X (t + 1000) w W → EvsDrew g a n cap X t w (.returned v) W) := fun v q W h1 h2 h3 => ⟨v, q, h1, rfl, h2, h3⟩
        go_wp2_with fail
        refine (one_any _ _ _ _ _ _ _ _ (by omega) (by omega) HH.out.2.2.2.1).mono ?_
        rintro r wp ⟨bp, rfl, hd⟩
        have H7 : Hid (EvH wp w g a n cap X (t + 6 + 8 * k + 2) u3 k u4 m) := HH.out.draw hd hgw
        clear hd HH
        cases bp
        · have HF : Hid (EvsDrew g a n cap X t w (.returned u3) wp) := HP.out _ _ _ (by omega) H7.out.1 (H7.out.2.2.2.up (by omega))
          clear H7 HP
          go_wp2
          go_ret
          exact HF.out
        · go_wp2_with fail
          refine (pick_any _ _ _ _ _ _ _ _ (by omega) (by omega) H7.out.2.2.2.1).mono ?_
          rintro r wq ⟨z1, hz1', rfl, hd⟩
          have H8 : Hid (EvH wq w g a n cap X (t + 6 + 8 * k + 4) u3 k u4 m) := H7.out.draw hd hgw
          clear hd H7
          go_wp2_with fail
          refine (pick_any _ _ _ _ _ _ _ _ (by omega) (by omega) H8.out.2.2.2.1).mono ?_
          rintro r ws ⟨z2, hz2', rfl, hd⟩
          have H9 : Hid (EvH ws w g a n cap X (t + 6 + 8 * k + 6) u3 k u4 m) := H8.out.draw hd hgw
          clear hd H8
          go_wp2_with fail
          refine (pick_any _ _ _ _ _ _ _ _ (by omega) (by omega) H9.out.2.2.2.1).mono ?_
          rintro r wu ⟨z3, hz3', rfl, hd⟩
          have HT : Hid (EvH wu w g a n cap X (t + 6 + 8 * k + 8) u3 k u4 m) := H9.out.draw hd hgw
          clear hd H9
          obtain ⟨K, P, M, ho, hM⟩ := HT.out.1
          have HO : Hid (wu.ownsRow w.heap.size 49 3 u3 k (cellsL (evF K P M) 3 k) ∧ ∀ i, i < k → 0 ≤ M i ∧ M i ≤ 1000) := ⟨ho, hM⟩
          have hzt : w.heap.size ≤ wu.heap.size := HT.out.2.2.2.2.2.2.2.1
          clear ho hM
          go_wp2_with (first
            | (at_builtin; refine wpList_append_own_at _ rfl (.tmp 68) (.tmp 77) 23 rfl w.heap.size 49 i0 (.agg #[.int .i64 0, .int .i64 0, .int .i64 0]) 3 24 Try.underlying23 hi0 hz0 hz1 hz2 rfl (by decide) u3 k (cellsL (evF K P M) 3 k) rfl (World.ownsRow.alloc HO.out.1 _) ⟨_, 0, none⟩ 1 1 [.int .i64 z1, .int .i64 (z2 - 1), .int .i64 z3] rfl rfl (ev_at (by first | rfl | simp) _ _) (by intro u hu; simp at hu; rcases hu with rfl | rfl | rfl <;> rfl) (by unfold maxLen; omega) (by omega) (by simp <;> omega) ?_; intro v9 w9 hown hgrow hnil hwhere)
            | go_in)
          have HF : Hid (EvsDrew g a n cap X t w (.returned v9) w9) := HP.out _ _ _ (by omega) (EvIn.snoc hown HO.out.2 (by omega)) (((HT.out.2.2.2.alloc _).grown hgrow hgw (fun j hj => (HO.out.1.lt j hj).1)).up (by omega))
          clear hown hgrow hnil hwhere HO HT HP
          go_ret
          exact HF.out
end Go.Proofs.Ytjophhiccbkpjaa
