/- The draw of a group, of how many nodes there are, and of votes. -/
import Derived.Test.YtalnmollgielcaaGbB
import Derived.Test.YtalnmollgielcaaDrU
import Derived.Test.YtalnmollgielcaaDrA
import Derived.Test.YtalnmollgielcaaGsL
namespace Go.Proofs.Ytalnmollgielcaa
open Go.RowKit
set_option linter.unusedVariables false

theorem Drew.alloc {w w' : World} {g : Nat} {a : Option Addr} {n cap : Nat} {X : Nat → Int} {t : Nat} (h : Drew g a n cap X t w w') (o : Obj) : Drew g a n cap X t w (w'.alloc o) := ⟨h.1.next (Go.Joins.below_alloc1 _ _), h.2.alloc _⟩
theorem Drew.grown {w w' w'' : World} {g : Nat} {a : Option Addr} {n cap : Nat} {X : Nat → Int} {t : Nat} {row : Option Nat} (h : Drew g a n cap X t w w') (hg : w'.grownBy w'' row) (hgw : g < w.heap.size) (hne : ∀ j, row = some j → w.heap.size ≤ j) : Drew g a n cap X t w w'' := by
  refine ⟨h.1.grown hg (fun j hj => by have := hne j hj; omega), ?_⟩
  exact ⟨hg.os.trans h.2.1, hg.tape.trans h.2.2.1, hg.output.trans h.2.2.2.1, Nat.le_trans h.2.2.2.2.1 hg.size, fun k hk hx => (hg.block k (Nat.lt_of_lt_of_le hk h.2.2.2.2.1) (fun e => by have := hne k e.symm; omega)).trans (h.2.2.2.2.2 k hk hx)⟩
/-- Block r is the answer's, block b holds a list, and the cursor stands. -/
def GdH (W w : World) (g : Nat) (a : Option Addr) (n cap : Nat) (X : Nat → Int) (t B r b : Nat) (L : List Int) : Prop := Bx W r [.slice none 0 0] ∧ (∃ v, Bx W b [v] ∧ W.ownsRow B 3 1 v L.length (intC L)) ∧ Drew g a n cap X t w W
section
variable {W W' w : World} {g : Nat} {a : Option Addr} {n cap : Nat} {X : Nat → Int} {t t' B r b : Nat} {L : List Int}
theorem GdH.draw (h : GdH W w g a n cap X t B r b L) (hd : Drew g a n cap X t' W W') (hr : g < r) (hb : g < b) (hB : g < B) : GdH W' w g a n cap X t' B r b L := by
  obtain ⟨h1, ⟨v, h2, h3⟩, h4⟩ := h
  exact ⟨h1.trn hd.2 (Or.inr hr), ⟨v, h2.trn hd.2 (Or.inr hb), own_trn h3 hd.2 hB⟩, h4.trans hd⟩
theorem GdH.up (h : GdH W w g a n cap X t B r b L) (ht : t ≤ t') : GdH W w g a n cap X t' B r b L := ⟨h.1, h.2.1, h.2.2.up ht⟩
theorem GdH.app {v v' : Value} {x : Int} (h1 : Bx W r [.slice none 0 0]) (h2 : Bx W b [v]) (h3 : W.ownsRow B 3 1 v L.length (intC L)) (h4 : Drew g a n cap X t w W)
    (hgw : g < w.heap.size) (hr : r < B) (hb : b < B) (hrb : r ≠ b) (hwb : w.heap.size ≤ b) (hg : W.grownBy W' v.ownBlock) (ho : W'.ownsRow B 3 1 v' (L.length + 1) (intC L ++ [.int .i64 x])) :
    GdH (W'.setCell ⟨b, 0, none⟩ v') w g a n cap X t B r b (L ++ [x]) := by
  have hn : ∀ q, q < B → v.ownBlock ≠ some q := fun q hq e => by have := (h3.lt q e).1; omega
  refine ⟨(h1.grew hg (hn r hr)).other hrb, ⟨v', (h2.grew hg (hn b hb)).set (k := 0) (by simp) v', ?_⟩, (h4.grown hg hgw (fun k hk => by have := (h3.lt k hk).1; omega)).out hgw hwb _⟩
  have : W'.ownsRow B 3 1 v' (L ++ [x]).length (intC (L ++ [x])) := by simpa [intC] using ho
  exact own_set this (fun q hq e => by have := (this.lt q hq).1; omega)
end
/-- What a slice looks like that holds a list. -/
def Formed (a : Option Addr) (n c : Nat) : Prop := ((∃ ad, a = some ad) ∨ (a = none ∧ n = 0 ∧ c = 0)) ∧ n ≤ c ∧ c ≤ maxLen
def GpDrew (g : Nat) (a : Option Addr) (n cap : Nat) (X : Nat → Int) (t : Nat) (w : World) (r : Ending) (w' : World) : Prop :=
  ∃ (L : List Int) (a5 : Option Addr) (cap5 : Nat), L.length ≤ 14 ∧ r = .returned (.agg #[.slice a5 L.length cap5]) ∧ IntS w' w.heap.size w'.heap.size a5 L.length (atZ L) ∧ Formed a5 L.length cap5 ∧ Drew g a n cap X (t + 40) w w'
theorem row_formed {w : World} {base : Nat} {v : Value} {L : List Int} (h : w.ownsRow base 3 1 v L.length (intC L)) : ∃ a cap, v = .slice a L.length cap ∧ IntS w base w.heap.size a L.length (atZ L) ∧ Formed a L.length cap := by
  obtain ⟨a, cap, rfl, hi⟩ := intC_row h
  refine ⟨a, cap, rfl, hi, ?_⟩
  obtain ⟨_, ⟨e, hn⟩ | ⟨g, c, cur, e, _, _, h1, h2, _⟩⟩ := h
  · simp only [Value.slice.injEq] at e
    obtain ⟨rfl, _, rfl⟩ := e
    exact ⟨Or.inr ⟨rfl, hn, rfl⟩, by omega, Nat.zero_le _⟩
  · simp only [Value.slice.injEq, true_and] at e
    obtain ⟨rfl, rfl⟩ := e
    exact ⟨Or.inl ⟨_, rfl⟩, h1, h2⟩
theorem GdH.post {W w : World} {g : Nat} {a : Option Addr} {n cap : Nat} {X : Nat → Int} {t t0 B r b : Nat} {L : List Int} (h : GdH W w g a n cap X t B r b L) (hgw : g < w.heap.size) (hwr : w.heap.size ≤ r) (hrB : r < B) (ht : t ≤ t0 + 40) (hL : L.length ≤ 14) :
    ∃ a5 cap5, Bx W b [.slice a5 L.length cap5] ∧ GpDrew g a n cap X t0 w (.returned (.agg #[.slice a5 L.length cap5])) (W.setCell ⟨r, 0, none⟩ (.slice a5 L.length cap5)) := by
  obtain ⟨h1, ⟨v, h2, h3⟩, h4⟩ := h
  obtain ⟨a5, cap5, rfl, hi, hf⟩ := row_formed h3
  refine ⟨a5, cap5, h2, L, a5, cap5, hL, rfl, ?_, hf, (h4.up ht).out hgw hwr _⟩
  have t : Turned r (r + 1) W (W.setCell ⟨r, 0, none⟩ (.slice a5 L.length cap5)) := (Turned.refl _ _ _).set (p := ⟨r, 0, none⟩) (Nat.le_refl _) (by show r < r + 1; omega) _
  have := (t.ints hi (Or.inr (by omega))).wide (show w.heap.size ≤ B by omega) (Nat.le_refl _)
  simpa using this
theorem wp_app_any {P : Program} (w : World) {o : Oper} {a : Act} {K : Act → World → Prop} {Q : Exit → Act → World → Prop} (s x : Operand) (t : TypeId)
    (ho : o.op = .call { callee := .builtin .append, args := #[s, x], argTypes := #[t, t] })
    (base : Nat) (e : TypeId) (i : TypeInfo) (z : Value) (size bytes : Nat) (ht : P.underlying t = some (.slice e)) (hi : P.info? e = some i) (hz : i.zero = some z)
    (hsize : i.size = size) (hby : i.bytes = bytes) (hzs : z.cells.size = size) (hsz : 0 < size)
    (v : Value) (n : Nat) (xs : List Value) (hs : a.eval s = v) (hown : w.ownsRow base e size v n xs)
    (ad : Addr) (m c : Nat) (news : List Value) (hx : a.eval x = .slice (some ad) m c) (hl : news.length = m * size) (hnews : ∀ j u, news[j]? = some u → w.cell? (ad.add j) = some u) (h1 : ∀ u ∈ news, u.oneCell' = true)
    (h63 : n + m ≤ maxLen) (hbytes : (n + m) * bytes ≤ 140737488355328) (hbase : base ≤ w.heap.size)
    (h : ∀ v' w', w'.ownsRow base e size v' (n + m) (xs ++ news) → w.grownBy w' v.ownBlock → (v'.ownBlock = v.ownBlock ∨ v'.ownBlock = some w.heap.size) → K (a.put o.dst v') w') : o.wp P a w K Q := by
  obtain ⟨v', w', hr, h2, h3, _, h5⟩ := run_append_own_at (P := P) w base t o.type e i z size bytes ht hi hz hsize hby hzs hsz v n xs hown ad m c news hl hnews h1 h63 hbytes hbase
  unfold Oper.wp execOp
  simp only [ho, resolve, invoke, builtin, Sem.run_bind, Sem.run_pure, Result.andThen_ok, List.map_toArray, List.map_cons, List.map_nil, hs, hx, hr]
  exact h v' w' h2 h3 h5

set_option maxRecDepth 100000 in
set_option maxHeartbeats 4000000 in
theorem group_any (g : Nat) (a : Option Addr) (n cap : Nat) (X : Nat → Int) (t : Nat) (m : Int) (w : World) (ht : t ≤ 10000) (hm : m ≤ 13) (hc : Cur w g a n cap X t) :
    Calls Try.prog 61 #[.pointer (some ⟨g, 0, none⟩), .int .i64 m] w (GpDrew g a n cap X t w) := by
  have hgw : g < w.heap.size := hc.2.2.2.2.2.1
  have HC : Hid (Cur w g a n cap X t) := hc
  clear hc
  obtain ⟨i0, hi0, hz0, hz1, hz2⟩ := info_parts info_int
  obtain ⟨M, hM, hMm⟩ : ∃ M : Nat, M ≤ 13 ∧ (m = (M : Int) ∨ (m < 0 ∧ M = 0)) := ⟨m.toNat, by omega, by omega⟩
  have HG : Hid (GdH ((w.alloc (.cells #[.slice none 0 0] 25)).alloc (.cells #[.slice none 0 0] 25)) w g a n cap X t (w.heap.size + 2) w.heap.size (w.heap.size + 1) []) := by
    have h := GbH.new w 25
    exact ⟨h.1, h.2.1, (Drew.alloc ⟨HC.out.next (Go.Joins.below_alloc1 _ _), (Trn.refl _ _ _).alloc _⟩ _)⟩
  clear HC
  go_enter Try.func61, Try.ntmps61
  go_wp2
  obtain ⟨r, hr⟩ : ∃ r, r = w.heap.size := ⟨_, rfl⟩
  obtain ⟨b, hb⟩ : ∃ b, b = w.heap.size + 1 := ⟨_, rfl⟩
  obtain ⟨B, hB⟩ : ∃ B, B = w.heap.size + 2 := ⟨_, rfl⟩
  have h1 : r < B := by omega
  have h2 : b < B := by omega
  have h3 : r ≠ b := by omega
  have h4 : w.heap.size ≤ b := by omega
  have h5 : w.heap.size ≤ r := by omega
  have h6 : b + 1 = B := by omega
  have h7 : g < r := by omega
  have h8 : g < b := by omega
  have h9 : g < B := by omega
  rw [← hB, ← hb, ← hr] at HG
  rw [← hb, ← hr]
  clear hr hb hB
  go_loopw [6] (fun x wr => ∃ (k : Nat) (L : List Int), k ≤ M ∧ x = .int .i64 k ∧ L.length ≤ k ∧ GdH wr w g a n cap X (t + 2 * k) B r b L) (fun x _ => M - (intOf x).toNat)
  case atStart => exact ⟨0, [], Nat.zero_le _, rfl, Nat.le_refl _, HG.out⟩
  case round =>
    obtain ⟨k, L, hk, rfl, hL, hH⟩ := hrel
    have HH : Hid (GdH wr w g a n cap X (t + 2 * k) B r b L) := hH
    clear hH HG
    by_cases hlt : k < M
    · have hlt' : (k : Int) < m := by omega
      go_wp2_with fail
      refine (one_any _ _ _ _ _ _ _ _ (by omega) (by omega) HH.out.2.2.1).mono ?_
      rintro _ w1 ⟨b1, rfl, hd⟩
      have H1 : Hid (GdH w1 w g a n cap X (t + 2 * (k + 1)) B r b L) := HH.out.draw hd h7 h8 h9
      clear hd HH
      cases b1
      · obtain ⟨g1, ⟨v, g2, g3⟩, g4⟩ := H1.out
        have HX : Hid (Bx w1 r [.slice none 0 0] ∧ Bx w1 b [v] ∧ w1.ownsRow B 3 1 v L.length (intC L) ∧ Drew g a n cap X (t + 2 * (k + 1)) w w1) := ⟨g1, g2, g3, g4⟩
        have c0 := g2.cell 0 rfl
        have f0 := g2.frz 0 (by simp)
        have z0 := g2.2
        have hBw : B ≤ w1.heap.size + 1 := by omega
        clear g1 g2 g3 g4 H1
        go_wp2_with (first
          | (at_builtin; refine wpList_append_own_at _ rfl (.tmp 16) (.tmp 18) 23 rfl B 3 i0 (.int .i64 0) 1 8 Try.underlying23 hi0 hz0 hz1 hz2 rfl (by decide) v L.length (intC L) rfl (World.ownsRow.alloc HX.out.2.2.1 _) ⟨_, 0, none⟩ 1 1 [.int .i64 (k : Int)] rfl rfl (one_cell _ _ _) (by intro u hu; simp at hu; subst hu; rfl) (by unfold maxLen; omega) (by omega) (by simp <;> omega) ?_; intro v4 w4 hown hgrow hnil hwh; (have HF : Hid (GdH (w4.setCell ⟨b, 0, none⟩ v4) w g a n cap X (t + 2 * (k + 1)) B r b (L ++ [(k : Int)])) := GdH.app (HX.out.1.alloc _) (HX.out.2.1.alloc _) (World.ownsRow.alloc HX.out.2.2.1 _) (HX.out.2.2.2.alloc _) hgw h1 h2 h3 h4 hgrow hown); (have c4 : w4.cell? ⟨b, 0, none⟩ = some v := ((HX.out.2.1.alloc _).grew hgrow (fun e => by have := (HX.out.2.2.1.lt b e).1; omega)).cell 0 rfl); (have f4 : w4.frozen? ⟨b, 0, none⟩ = false := ((HX.out.2.1.alloc _).grew hgrow (fun e => by have := (HX.out.2.2.1.lt b e).1; omega)).frz 0 (by simp)); (have z4 : b < w4.heap.size := ((HX.out.2.1.alloc _).grew hgrow (fun e => by have := (HX.out.2.2.1.lt b e).1; omega)).2); obtain ⟨a4, cap4, hv4, _⟩ := intC_row (L := L ++ [(k : Int)]) (by simpa [intC] using hown); clear hown hgrow hnil hwh HX; subst hv4))
        go_wp2
        go_roundw
        case rel => exact ⟨k + 1, L ++ [(k : Int)], by omega, by go_num, by simp; omega, by have q := HF.out; rw [List.length_append] at q; exact q⟩
        case measure => simp [intOf]; omega
      · go_wp2
        go_roundw
        case rel => exact ⟨k + 1, L, by omega, by go_num, by omega, H1.out⟩
        case measure => simp [intOf]; omega
    · have hlt' : ¬ (k : Int) < m := by omega
      have HH2 : Hid (GdH wr w g a n cap X (t + 26) B r b L) := HH.out.up (by omega)
      clear HH
      go_wp2_with fail
      refine (one_any _ _ _ _ _ _ _ _ (by omega) (by omega) HH2.out.2.2.1).mono ?_
      rintro _ w1 ⟨b1, rfl, hd⟩
      have H1 : Hid (GdH w1 w g a n cap X (t + 28) B r b L) := HH2.out.draw hd h7 h8 h9
      clear hd HH2
      cases b1
      · obtain ⟨a5, cap5, hv, hp⟩ := H1.out.post (t0 := t) hgw h5 h1 (by omega) (by omega)
        have HP : Hid (GpDrew g a n cap X t w (.returned (.agg #[.slice a5 L.length cap5])) (w1.setCell ⟨r, 0, none⟩ (.slice a5 L.length cap5))) := hp
        have c0 := hv.cell 0 rfl
        have z0 := hv.2
        have r0 := H1.out.1.cell 0 rfl
        have rf0 := H1.out.1.frz 0 (by simp)
        have rz0 := H1.out.1.2
        clear hv hp H1
        generalize L.length = l at *
        go_wp2
        exact bodyPost_ret (v := .agg #[.slice a5 l cap5]) (by simp [results, Try.results61, go_sem, *]) rfl HP.out
      · obtain ⟨g1, ⟨v, g2, g3⟩, g4⟩ := H1.out
        obtain ⟨w2, hw2⟩ : ∃ x, x = w1.drew := ⟨_, rfl⟩
        have hbd : Below w1.heap.size w1 w2 := hw2 ▸ below_drew _
        have HX : Hid (Bx w2 r [.slice none 0 0] ∧ Bx w2 b [v] ∧ w2.ownsRow B 3 1 v L.length (intC L) ∧ Drew g a n cap X (t + 28) w w2) := ⟨g1.next hbd, g2.next hbd, own_next g3 hbd, g4.1.next hbd, g4.2.next hbd⟩
        have HW : Hid (w2 = w1.drew) := hw2
        clear g1 g2 g3 g4 H1 hbd hw2
        go_upto_region 8 with fail
        refine wp_region_noPanic ?_
        refine wp_region_held_drew (S := fun _ => True) (by kernel_rfl) trivial (fun hHeld => ?_)
        rw [← HW.out]
        refine take_v (v := ?_) 0 ⟨some 23, Op.fieldAddr 25 (Operand.tmp 5) 0, _, _, _, none⟩ rfl (fun _ _ _ h => h) ?_ hHeld ?_
        rotate_left
        · (intro W _; go_simp <;> (try with_reducible rfl))
        refine take_v (v := ?_) 2 ⟨some 25, Op.move (Operand.tmp 0), _, _, _, none⟩ rfl (fun _ _ _ h => h) ?_ hHeld ?_
        rotate_left
        · (intro W _; go_simp <;> (try with_reducible rfl))
        refine ready_two 1 3 ⟨some 24, Op.load 23 (Operand.tmp 23), _, _, _, none⟩ ⟨some 26, Op.call { callee := Callee.value (Operand.func 53), args := #[Operand.tmp 25, Operand.const (Value.int IntKind.i64 14)], argTypes := #[69, 3] }, _, _, _, none⟩ (by kernel_rfl) rfl rfl (by kernel_rfl) (by kernel_rfl) (fun KC hK => ?_) (fun KC hK => ?_)
        ·
          have c0 := HX.out.2.1.cell 0 rfl
          have z0 := HX.out.2.1.2
          go_wp2_with fail
          clear c0 z0
          refine hK.out _ _ trivial (fun hHeld => ?_)
          clear hK KC
          refine ready_call 3 ⟨some 26, Op.call { callee := Callee.value (Operand.func 53), args := #[Operand.tmp 25, Operand.const (Value.int IntKind.i64 14)], argTypes := #[69, 3] }, _, _, _, none⟩ (by kernel_rfl) rfl (by kernel_rfl) (fun KC hK => ?_)
          go_wp2_with fail
          refine (pick_any _ _ _ _ _ _ _ _ (by omega) (by omega) HX.out.2.2.2.1).mono ?_
          rintro _ w3 ⟨x3, hx3, rfl, hd⟩
          have HX : Hid (Bx w3 r [.slice none 0 0] ∧ Bx w3 b [v] ∧ w3.ownsRow B 3 1 v L.length (intC L) ∧ Drew g a n cap X (t + 30) w w3) := ⟨HX.out.1.trn hd.2 (Or.inr h7), HX.out.2.1.trn hd.2 (Or.inr h8), own_trn HX.out.2.2.1 hd.2 h9, HX.out.2.2.2.trans hd⟩
          clear hd
          refine hK.out _ _ trivial (fun hHeld => ?_)
          clear hK KC
          refine take_v (v := ?_) 4 ⟨some 27, Op.binOp BinOp.sub 3 (Operand.tmp 26) (Operand.const (Value.int IntKind.i64 1)) 3, _, _, _, none⟩ rfl (fun _ _ _ h => h) ?_ hHeld ?_
          rotate_left
          · (intro W _; go_simp <;> (try with_reducible rfl))
          refine ready_call 5 ⟨some 28, Op.buildSlice 23 1 #[(0, Operand.tmp 27)], _, _, _, none⟩ (by kernel_rfl) rfl (by kernel_rfl) (fun KC hK => ?_)
          go_wp2_with fail
          obtain ⟨w5, hw5⟩ : ∃ x, x = w3.alloc (.cells #[.int .i64 (x3 - 1)] 3) := ⟨_, rfl⟩
          have hb5 : Below w3.heap.size w3 w5 := hw5 ▸ Go.Joins.below_alloc1 _ _
          have HX : Hid (Bx w5 r [.slice none 0 0] ∧ Bx w5 b [v] ∧ w5.ownsRow B 3 1 v L.length (intC L) ∧ Drew g a n cap X (t + 30) w w5) := ⟨HX.out.1.next hb5, HX.out.2.1.next hb5, own_next HX.out.2.2.1 hb5, HX.out.2.2.2.1.next hb5, HX.out.2.2.2.2.next hb5⟩
          have HN5 : Hid (∀ j u, [Value.int .i64 (x3 - 1)][j]? = some u → w5.cell? ((⟨w3.heap.size, 0, none⟩ : Addr).add j) = some u) := hw5 ▸ one_cell w3 (.int .i64 (x3 - 1)) _
          rw [← hw5]
          clear hb5 hw5
          refine hK.out _ _ trivial (fun hHeld => ?_)
          clear hK KC
          refine ready_call 6 ⟨some 29, Op.call { callee := Callee.builtin Builtin.append, args := #[Operand.tmp 24, Operand.tmp 28], argTypes := #[23, 23] }, _, _, _, none⟩ (by kernel_rfl) rfl (by kernel_rfl) (fun KC hK => ?_)
          have hBw5 : B ≤ w5.heap.size := by have := HX.out.2.1.2; omega
          refine wp_app_any _ (.tmp 24) (.tmp 28) 23 (by rfl) B 3 i0 (.int .i64 0) 1 8 Try.underlying23 hi0 hz0 hz1 hz2 rfl (by decide) v L.length (intC L) (by rfl) HX.out.2.2.1 ⟨w3.heap.size, 0, none⟩ 1 1 [.int .i64 (x3 - 1)] (by rfl) (by simp) HN5.out (by intro u hu; simp at hu; subst hu; rfl) (by unfold maxLen; omega) (by omega) hBw5 ?_
          intro v4 w4 hown hgr hwh
          obtain ⟨L2, hL2⟩ : ∃ L2, L2 = L ++ [x3 - 1] := ⟨_, rfl⟩
          have HF : Hid (GdH (w4.setCell ⟨b, 0, none⟩ v4) w g a n cap X (t + 30) B r b L2) := hL2 ▸ GdH.app HX.out.1 HX.out.2.1 HX.out.2.2.1 HX.out.2.2.2 hgw h1 h2 h3 h4 hgr hown
          have HB4 : Hid (Bx w4 b [v]) := HX.out.2.1.grew hgr (fun e => by have := (HX.out.2.2.1.lt b e).1; omega)
          obtain ⟨a4, cap4, hv4, _⟩ := intC_row (L := L2) (v := v4) (base := B) (w := w4) (by rw [hL2]; simpa [intC] using hown)
          have hl2 : L2.length ≤ 14 := by rw [hL2]; simp; omega
          clear hown hgr hwh HN5 hBw5 hL2
          subst hv4
          refine hK.out _ _ trivial (fun hHeld => ?_)
          clear hK KC
          refine take_v (v := ?_) 7 ⟨some 30, Op.fieldAddr 25 (Operand.tmp 5) 0, _, _, _, none⟩ rfl (fun _ _ _ h => h) ?_ hHeld ?_
          rotate_left
          · (intro W _; go_simp <;> (try with_reducible rfl))
          refine ready_call 8 ⟨none, Op.store 23 (Operand.tmp 30) (Operand.tmp 29), _, _, _, none⟩ (by kernel_rfl) rfl (by kernel_rfl) (fun KC hK => ?_)
          have c4 := HB4.out.cell 0 rfl
          have f4 := HB4.out.frz 0 (by simp)
          have z4 := HB4.out.2
          go_wp2_with fail
          clear c4 f4 z4
          refine hK.out _ _ trivial (fun hHeld => ?_)
          clear hK KC
          refine wpAnyH_done (by kernel_rfl) ?_ _
          refine NoPanic.normal ?_
          obtain ⟨a5, cap5, hv, hp⟩ := HF.out.post (t0 := t) hgw h5 h1 (by omega) hl2
          obtain ⟨w6, hw6⟩ : ∃ x, x = w4.setCell ⟨b, 0, none⟩ (.slice a4 L2.length cap4) := ⟨_, rfl⟩
          rw [← hw6] at hv hp ⊢
          have HR : Hid (Bx w6 r [.slice none 0 0]) := hw6 ▸ HF.out.1
          have HP : Hid (GpDrew g a n cap X t w (.returned (.agg #[.slice a5 L2.length cap5])) (w6.setCell ⟨r, 0, none⟩ (.slice a5 L2.length cap5))) := hp
          have c0 := hv.cell 0 rfl
          have z0 := hv.2
          have r0 := HR.out.cell 0 rfl
          have rf0 := HR.out.frz 0 (by simp)
          have rz0 := HR.out.2
          clear hv hp hw6 HF HB4 HX HW
          generalize L2.length = l at *
          go_wp2
          exact bodyPost_ret (v := .agg #[.slice a5 l cap5]) (by simp [results, Try.results61, go_sem, *]) rfl HP.out
        ·
          go_wp2_with fail
          refine (pick_any _ _ _ _ _ _ _ _ (by omega) (by omega) HX.out.2.2.2.1).mono ?_
          rintro _ w3 ⟨x3, hx3, rfl, hd⟩
          have HX : Hid (Bx w3 r [.slice none 0 0] ∧ Bx w3 b [v] ∧ w3.ownsRow B 3 1 v L.length (intC L) ∧ Drew g a n cap X (t + 30) w w3) := ⟨HX.out.1.trn hd.2 (Or.inr h7), HX.out.2.1.trn hd.2 (Or.inr h8), own_trn HX.out.2.2.1 hd.2 h9, HX.out.2.2.2.trans hd⟩
          clear hd
          refine hK.out _ _ trivial (fun hHeld => ?_)
          clear hK KC
          refine take_v (v := ?_) 4 ⟨some 27, Op.binOp BinOp.sub 3 (Operand.tmp 26) (Operand.const (Value.int IntKind.i64 1)) 3, _, _, _, none⟩ rfl (fun _ _ _ h => h) ?_ hHeld ?_
          rotate_left
          · (intro W _; go_simp <;> (try with_reducible rfl))
          refine ready_two 1 5 ⟨some 24, Op.load 23 (Operand.tmp 23), _, _, _, none⟩ ⟨some 28, Op.buildSlice 23 1 #[(0, Operand.tmp 27)], _, _, _, none⟩ (by kernel_rfl) rfl rfl (by kernel_rfl) (by kernel_rfl) (fun KC hK => ?_) (fun KC hK => ?_)
          ·
            have c0 := HX.out.2.1.cell 0 rfl
            have z0 := HX.out.2.1.2
            go_wp2_with fail
            clear c0 z0
            refine hK.out _ _ trivial (fun hHeld => ?_)
            clear hK KC
            refine ready_call 5 ⟨some 28, Op.buildSlice 23 1 #[(0, Operand.tmp 27)], _, _, _, none⟩ (by kernel_rfl) rfl (by kernel_rfl) (fun KC hK => ?_)
            go_wp2_with fail
            obtain ⟨w5, hw5⟩ : ∃ x, x = w3.alloc (.cells #[.int .i64 (x3 - 1)] 3) := ⟨_, rfl⟩
            have hb5 : Below w3.heap.size w3 w5 := hw5 ▸ Go.Joins.below_alloc1 _ _
            have HX : Hid (Bx w5 r [.slice none 0 0] ∧ Bx w5 b [v] ∧ w5.ownsRow B 3 1 v L.length (intC L) ∧ Drew g a n cap X (t + 30) w w5) := ⟨HX.out.1.next hb5, HX.out.2.1.next hb5, own_next HX.out.2.2.1 hb5, HX.out.2.2.2.1.next hb5, HX.out.2.2.2.2.next hb5⟩
            have HN5 : Hid (∀ j u, [Value.int .i64 (x3 - 1)][j]? = some u → w5.cell? ((⟨w3.heap.size, 0, none⟩ : Addr).add j) = some u) := hw5 ▸ one_cell w3 (.int .i64 (x3 - 1)) _
            rw [← hw5]
            clear hb5 hw5
            refine hK.out _ _ trivial (fun hHeld => ?_)
            clear hK KC
            refine ready_call 6 ⟨some 29, Op.call { callee := Callee.builtin Builtin.append, args := #[Operand.tmp 24, Operand.tmp 28], argTypes := #[23, 23] }, _, _, _, none⟩ (by kernel_rfl) rfl (by kernel_rfl) (fun KC hK => ?_)
            have hBw5 : B ≤ w5.heap.size := by have := HX.out.2.1.2; omega
            refine wp_app_any _ (.tmp 24) (.tmp 28) 23 (by rfl) B 3 i0 (.int .i64 0) 1 8 Try.underlying23 hi0 hz0 hz1 hz2 rfl (by decide) v L.length (intC L) (by rfl) HX.out.2.2.1 ⟨w3.heap.size, 0, none⟩ 1 1 [.int .i64 (x3 - 1)] (by rfl) (by simp) HN5.out (by intro u hu; simp at hu; subst hu; rfl) (by unfold maxLen; omega) (by omega) hBw5 ?_
            intro v4 w4 hown hgr hwh
            obtain ⟨L2, hL2⟩ : ∃ L2, L2 = L ++ [x3 - 1] := ⟨_, rfl⟩
            have HF : Hid (GdH (w4.setCell ⟨b, 0, none⟩ v4) w g a n cap X (t + 30) B r b L2) := hL2 ▸ GdH.app HX.out.1 HX.out.2.1 HX.out.2.2.1 HX.out.2.2.2 hgw h1 h2 h3 h4 hgr hown
            have HB4 : Hid (Bx w4 b [v]) := HX.out.2.1.grew hgr (fun e => by have := (HX.out.2.2.1.lt b e).1; omega)
            obtain ⟨a4, cap4, hv4, _⟩ := intC_row (L := L2) (v := v4) (base := B) (w := w4) (by rw [hL2]; simpa [intC] using hown)
            have hl2 : L2.length ≤ 14 := by rw [hL2]; simp; omega
            clear hown hgr hwh HN5 hBw5 hL2
            subst hv4
            refine hK.out _ _ trivial (fun hHeld => ?_)
            clear hK KC
            refine take_v (v := ?_) 7 ⟨some 30, Op.fieldAddr 25 (Operand.tmp 5) 0, _, _, _, none⟩ rfl (fun _ _ _ h => h) ?_ hHeld ?_
            rotate_left
            · (intro W _; go_simp <;> (try with_reducible rfl))
            refine ready_call 8 ⟨none, Op.store 23 (Operand.tmp 30) (Operand.tmp 29), _, _, _, none⟩ (by kernel_rfl) rfl (by kernel_rfl) (fun KC hK => ?_)
            have c4 := HB4.out.cell 0 rfl
            have f4 := HB4.out.frz 0 (by simp)
            have z4 := HB4.out.2
            go_wp2_with fail
            clear c4 f4 z4
            refine hK.out _ _ trivial (fun hHeld => ?_)
            clear hK KC
            refine wpAnyH_done (by kernel_rfl) ?_ _
            refine NoPanic.normal ?_
            obtain ⟨a5, cap5, hv, hp⟩ := HF.out.post (t0 := t) hgw h5 h1 (by omega) hl2
            obtain ⟨w6, hw6⟩ : ∃ x, x = w4.setCell ⟨b, 0, none⟩ (.slice a4 L2.length cap4) := ⟨_, rfl⟩
            rw [← hw6] at hv hp ⊢
            have HR : Hid (Bx w6 r [.slice none 0 0]) := hw6 ▸ HF.out.1
            have HP : Hid (GpDrew g a n cap X t w (.returned (.agg #[.slice a5 L2.length cap5])) (w6.setCell ⟨r, 0, none⟩ (.slice a5 L2.length cap5))) := hp
            have c0 := hv.cell 0 rfl
            have z0 := hv.2
            have r0 := HR.out.cell 0 rfl
            have rf0 := HR.out.frz 0 (by simp)
            have rz0 := HR.out.2
            clear hv hp hw6 HF HB4 HX HW
            generalize L2.length = l at *
            go_wp2
            exact bodyPost_ret (v := .agg #[.slice a5 l cap5]) (by simp [results, Try.results61, go_sem, *]) rfl HP.out
          ·
            go_wp2_with fail
            obtain ⟨w5, hw5⟩ : ∃ x, x = w3.alloc (.cells #[.int .i64 (x3 - 1)] 3) := ⟨_, rfl⟩
            have hb5 : Below w3.heap.size w3 w5 := hw5 ▸ Go.Joins.below_alloc1 _ _
            have HX : Hid (Bx w5 r [.slice none 0 0] ∧ Bx w5 b [v] ∧ w5.ownsRow B 3 1 v L.length (intC L) ∧ Drew g a n cap X (t + 30) w w5) := ⟨HX.out.1.next hb5, HX.out.2.1.next hb5, own_next HX.out.2.2.1 hb5, HX.out.2.2.2.1.next hb5, HX.out.2.2.2.2.next hb5⟩
            have HN5 : Hid (∀ j u, [Value.int .i64 (x3 - 1)][j]? = some u → w5.cell? ((⟨w3.heap.size, 0, none⟩ : Addr).add j) = some u) := hw5 ▸ one_cell w3 (.int .i64 (x3 - 1)) _
            rw [← hw5]
            clear hb5 hw5
            refine hK.out _ _ trivial (fun hHeld => ?_)
            clear hK KC
            refine ready_call 1 ⟨some 24, Op.load 23 (Operand.tmp 23), _, _, _, none⟩ (by kernel_rfl) rfl (by kernel_rfl) (fun KC hK => ?_)
            have c0 := HX.out.2.1.cell 0 rfl
            have z0 := HX.out.2.1.2
            go_wp2_with fail
            clear c0 z0
            refine hK.out _ _ trivial (fun hHeld => ?_)
            clear hK KC
            refine ready_call 6 ⟨some 29, Op.call { callee := Callee.builtin Builtin.append, args := #[Operand.tmp 24, Operand.tmp 28], argTypes := #[23, 23] }, _, _, _, none⟩ (by kernel_rfl) rfl (by kernel_rfl) (fun KC hK => ?_)
            have hBw5 : B ≤ w5.heap.size := by have := HX.out.2.1.2; omega
            refine wp_app_any _ (.tmp 24) (.tmp 28) 23 (by rfl) B 3 i0 (.int .i64 0) 1 8 Try.underlying23 hi0 hz0 hz1 hz2 rfl (by decide) v L.length (intC L) (by rfl) HX.out.2.2.1 ⟨w3.heap.size, 0, none⟩ 1 1 [.int .i64 (x3 - 1)] (by rfl) (by simp) HN5.out (by intro u hu; simp at hu; subst hu; rfl) (by unfold maxLen; omega) (by omega) hBw5 ?_
            intro v4 w4 hown hgr hwh
            obtain ⟨L2, hL2⟩ : ∃ L2, L2 = L ++ [x3 - 1] := ⟨_, rfl⟩
            have HF : Hid (GdH (w4.setCell ⟨b, 0, none⟩ v4) w g a n cap X (t + 30) B r b L2) := hL2 ▸ GdH.app HX.out.1 HX.out.2.1 HX.out.2.2.1 HX.out.2.2.2 hgw h1 h2 h3 h4 hgr hown
            have HB4 : Hid (Bx w4 b [v]) := HX.out.2.1.grew hgr (fun e => by have := (HX.out.2.2.1.lt b e).1; omega)
            obtain ⟨a4, cap4, hv4, _⟩ := intC_row (L := L2) (v := v4) (base := B) (w := w4) (by rw [hL2]; simpa [intC] using hown)
            have hl2 : L2.length ≤ 14 := by rw [hL2]; simp; omega
            clear hown hgr hwh HN5 hBw5 hL2
            subst hv4
            refine hK.out _ _ trivial (fun hHeld => ?_)
            clear hK KC
            refine take_v (v := ?_) 7 ⟨some 30, Op.fieldAddr 25 (Operand.tmp 5) 0, _, _, _, none⟩ rfl (fun _ _ _ h => h) ?_ hHeld ?_
            rotate_left
            · (intro W _; go_simp <;> (try with_reducible rfl))
            refine ready_call 8 ⟨none, Op.store 23 (Operand.tmp 30) (Operand.tmp 29), _, _, _, none⟩ (by kernel_rfl) rfl (by kernel_rfl) (fun KC hK => ?_)
            have c4 := HB4.out.cell 0 rfl
            have f4 := HB4.out.frz 0 (by simp)
            have z4 := HB4.out.2
            go_wp2_with fail
            clear c4 f4 z4
            refine hK.out _ _ trivial (fun hHeld => ?_)
            clear hK KC
            refine wpAnyH_done (by kernel_rfl) ?_ _
            refine NoPanic.normal ?_
            obtain ⟨a5, cap5, hv, hp⟩ := HF.out.post (t0 := t) hgw h5 h1 (by omega) hl2
            obtain ⟨w6, hw6⟩ : ∃ x, x = w4.setCell ⟨b, 0, none⟩ (.slice a4 L2.length cap4) := ⟨_, rfl⟩
            rw [← hw6] at hv hp ⊢
            have HR : Hid (Bx w6 r [.slice none 0 0]) := hw6 ▸ HF.out.1
            have HP : Hid (GpDrew g a n cap X t w (.returned (.agg #[.slice a5 L2.length cap5])) (w6.setCell ⟨r, 0, none⟩ (.slice a5 L2.length cap5))) := hp
            have c0 := hv.cell 0 rfl
            have z0 := hv.2
            have r0 := HR.out.cell 0 rfl
            have rf0 := HR.out.frz 0 (by simp)
            have rz0 := HR.out.2
            clear hv hp hw6 HF HB4 HX HW
            generalize L2.length = l at *
            go_wp2
            exact bodyPost_ret (v := .agg #[.slice a5 l cap5]) (by simp [results, Try.results61, go_sem, *]) rfl HP.out
end Go.Proofs.Ytalnmollgielcaa
