/- The draw of ops: the cursor's ops. What comes out is said as little as may be: some ops, whose texts are short. -/
import Derived.Test.YthbpjmnlgfahmaaDrK
import Derived.Test.YthbpjmnlgfahmaaRecS
import Derived.Test.YthbpjmnlgfahmaaCfS
namespace Go.Proofs.Ythbpjmnlgfahmaa
open Go.RowKit
set_option linter.unusedVariables false

/-- A list of k ops that is being built. -/
def OpIn (w : World) (base : Nat) (v : Value) (k : Nat) : Prop := ∃ (K T : Nat → Int) (S : Nat → ByteArray), w.ownsRow base 44 3 v k (cellsL (opF K T S) 3 k) ∧ ∀ i, i < k → (S i).size ≤ 21
theorem OpIn.nil (w : World) (base : Nat) : OpIn w base (.slice none 0 0) 0 := ⟨fun _ => 0, fun _ => 0, fun _ => ⟨#[]⟩, World.ownsRow_nil _ _ _ _, fun i hi => absurd hi (by omega)⟩
theorem OpIn.snoc {w : World} {base : Nat} {v : Value} {k : Nat} {K T : Nat → Int} {S : Nat → ByteArray} {x y : Int} {s : ByteArray} (h : w.ownsRow base 44 3 v (k + 1) (cellsL (opF K T S) 3 k ++ [.int .i64 x, .int .i64 y, .string s])) (hS : ∀ i, i < k → (S i).size ≤ 21) (hs : s.size ≤ 21) : OpIn w base v (k + 1) := by
  refine ⟨fun i => if i < k then K i else x, fun i => if i < k then T i else y, fun i => if i < k then S i else s, ?_, ?_⟩
  · have e1 : cellsL (opF (fun i => if i < k then K i else x) (fun i => if i < k then T i else y) (fun i => if i < k then S i else s)) 3 (k + 1) = cellsL (opF K T S) 3 k ++ [.int .i64 x, .int .i64 y, .string s] := by
      rw [cellsL, cellsL_congr (G := opF K T S) (fun i hi j hj => by simp [opF, hi])]
      congr 1
      simp [opF, List.range_succ]
    rw [e1]; exact h
  · intro i hi
    by_cases h1 : i < k
    · simp only [h1, if_true]; exact hS i h1
    · simp only [h1, if_false]; exact hs
theorem OpIn.next {w w' : World} {base : Nat} {v : Value} {k : Nat} (h : OpIn w base v k) (hb : Below w.heap.size w w') : OpIn w' base v k := by
  obtain ⟨K, T, S, ho, hS⟩ := h
  exact ⟨K, T, S, own_keep ho hb, hS⟩
theorem OpIn.trn {w w' : World} {base : Nat} {v : Value} {k B C : Nat} (h : OpIn w base v k) (ht : Trn B C w w') (hC : C ≤ base) : OpIn w' base v k := by
  obtain ⟨K, T, S, ho, hS⟩ := h
  exact ⟨K, T, S, own_trn ho ht hC, hS⟩
theorem OpIn.set {w : World} {base : Nat} {v : Value} {k g q : Nat} {u : Value} (h : OpIn w base v k) (hg : ∀ b, v.ownBlock = some b → b ≠ g) : OpIn (w.setCell ⟨g, q, none⟩ u) base v k := by
  obtain ⟨K, T, S, ho, hS⟩ := h
  refine ⟨K, T, S, ⟨ho.1, ?_⟩, hS⟩
  rcases ho.2 with h | ⟨b, cap, cur, hv, hb, hh, r⟩
  · exact Or.inl h
  · exact Or.inr ⟨b, cap, cur, hv, hb, by rw [Below.heap_setCell _ _ _ _ (hg b (by rw [hv]; rfl))]; exact hh, r⟩
theorem OpIn.lt {w : World} {base : Nat} {v : Value} {k : Nat} (h : OpIn w base v k) : ∀ b, v.ownBlock = some b → base ≤ b ∧ b < w.heap.size := by
  obtain ⟨K, T, S, ho, hS⟩ := h
  exact ho.lt
theorem Drew.alloc {w w' : World} {g : Nat} {a : Option Addr} {n cap : Nat} {X : Nat → Int} {t : Nat} (h : Drew g a n cap X t w w') (o : Obj) : Drew g a n cap X t w (w'.alloc o) := ⟨h.1.next (Go.Joins.below_alloc1 _ _), h.2.alloc _⟩
theorem Drew.next {w w' w'' : World} {g : Nat} {a : Option Addr} {n cap : Nat} {X : Nat → Int} {t : Nat} (h : Drew g a n cap X t w w') (hb : Below w'.heap.size w' w'') : Drew g a n cap X t w w'' := ⟨h.1.next hb, h.2.next hb⟩
theorem Drew.grown {w w' w'' : World} {g : Nat} {a : Option Addr} {n cap : Nat} {X : Nat → Int} {t : Nat} {row : Option Nat} (h : Drew g a n cap X t w w') (hg : w'.grownBy w'' row) (hgw : g < w.heap.size) (hne : ∀ j, row = some j → w.heap.size ≤ j) : Drew g a n cap X t w w'' := by
  refine ⟨h.1.grown hg (fun j hj => by have := hne j hj; omega), ?_⟩
  exact ⟨hg.os.trans h.2.1, hg.tape.trans h.2.2.1, hg.output.trans h.2.2.2.1, Nat.le_trans h.2.2.2.2.1 hg.size, fun k hk hx => (hg.block k (Nat.lt_of_lt_of_le hk h.2.2.2.2.1) (fun e => by have := hne k e.symm; omega)).trans (h.2.2.2.2.2 k hk hx)⟩
def OpsDrew (g : Nat) (a : Option Addr) (n cap : Nat) (X : Nat → Int) (t : Nat) (w : World) (r : Ending) (w' : World) : Prop :=
  ∃ (v : Value) (k : Nat), k ≤ 200 ∧ r = .returned v ∧ OpIn w' w.heap.size v k ∧ Drew g a n cap X (t + 1000) w w'

theorem op_at {w : World} {s : Nat} (hs : w.heap.size = s) (C : List Value) (e : TypeId) : ∀ j u, C[j]? = some u → (w.alloc (.cells C.toArray e)).cell? ((⟨s, 0, none⟩ : Addr).add j) = some u := hs ▸ cells_new w C e

set_option maxRecDepth 100000 in
set_option maxHeartbeats 8000000 in
theorem ops_any (g : Nat) (a : Option Addr) (n cap : Nat) (X : Nat → Int) (t : Nat) (w : World) (ht : t ≤ 10000) (hc : Cur w g a n cap X t) :
    Calls Try.prog 65 #[.pointer (some ⟨g, 0, none⟩)] w (OpsDrew g a n cap X t w) := by
  have hgw : g < w.heap.size := hc.2.2.2.2.2.1
  have HC : Hid (Cur w g a n cap X t) := hc
  clear hc
  obtain ⟨i0, hi0, hz0, hz1, hz2⟩ := info_parts info_op
  go_enter Try.func65, Try.ntmps65
  go_wp2_with fail
  refine (pick_any _ _ _ _ _ _ _ _ (by omega) (by omega) HC.out).mono ?_
  rintro r w1 ⟨x1, hx1, rfl, hd⟩
  have H1 : Hid (Drew g a n cap X (t + 2) w w1) := hd
  clear hd HC
  go_wp2_with fail
  refine (pick_any _ _ _ _ _ _ _ _ (by omega) (by omega) H1.out.1).mono ?_
  rintro r w2 ⟨x2, hx2, rfl, hd⟩
  have H2 : Hid (Drew g a n cap X (t + 4) w w2) := H1.out.trans hd
  clear hd H1
  go_wp2_with fail
  refine (one_any _ _ _ _ _ _ _ _ (by omega) (by omega) H2.out.1).mono ?_
  rintro r w3 ⟨b3, rfl, hd⟩
  have H3 : Hid (Drew g a n cap X (t + 6) w w3) := H2.out.trans hd
  clear hd H2
  obtain ⟨mm, hmm⟩ : ∃ mm : Int, mm = 1 + x1 := ⟨_, rfl⟩
  have hm4 : 1 ≤ mm ∧ mm ≤ 4 := by omega
  cases b3

  · obtain ⟨N, hN, hNx⟩ : ∃ N : Nat, N ≤ 50 ∧ x2 = (N : Int) := ⟨x2.toNat, by omega, by omega⟩
    go_wp2
    try rw [← hmm]
    try rw [hNx]
    have hNx0 : Hid (x2 = (N : Int)) := hNx
    clear hNx hx1 hx2 hmm
    go_loopw [5, 3] (fun i v wr => ∃ k : Nat, k ≤ N ∧ i = .int .i64 ((N : Int) - k) ∧ OpIn wr w.heap.size v k ∧ Drew g a n cap X (t + 6 + 12 * k) w wr) (fun i _ _ => (intOf i).toNat)
    case atStart => exact ⟨0, Nat.zero_le _, by simp, OpIn.nil _ _, H3.out⟩
    case round =>
      obtain ⟨k, hk, rfl, hO, hd⟩ := hrel
      clear H3
      have HL : Hid (OpIn wr w.heap.size u3 k ∧ Drew g a n cap X (t + 6 + 12 * k) w wr) := ⟨hO, hd⟩
      clear hO hd
      by_cases hlt : k < N
      · have hlt' : 0 < (N : Int) - (k : Int) := by omega
        go_wp2_with fail
        refine (pick_any _ _ _ _ _ _ _ _ (by omega) (by omega) HL.out.2.1).mono ?_
        rintro r wa ⟨ya, hya, rfl, hd⟩
        have HA : Hid (OpIn wa w.heap.size u3 k ∧ Drew g a n cap X (t + 6 + 12 * k + 2) w wa) := ⟨HL.out.1.trn hd.2 (by omega), HL.out.2.trans hd⟩
        clear hd HL
        go_wp2_with fail
        refine (pick_any _ _ _ _ _ _ _ _ (by omega) (by omega) HA.out.2.1).mono ?_
        rintro r wb ⟨yb, hyb, rfl, hd⟩
        have HB : Hid (OpIn wb w.heap.size u3 k ∧ Drew g a n cap X (t + 6 + 12 * k + 4) w wb) := ⟨HA.out.1.trn hd.2 (by omega), HA.out.2.trans hd⟩
        clear hd HA
        go_wp2_with fail
        refine (key_any _ _ _ _ _ _ _ (by omega) HB.out.2.1).mono ?_
        rintro r wd ⟨sd, hsd, rfl, hd⟩
        have HD : Hid (OpIn wd w.heap.size u3 k ∧ Drew g a n cap X (t + 6 + 12 * k + 8) w wd) := ⟨HB.out.1.trn hd.2 (by omega), HB.out.2.trans hd⟩
        have hzd : w.heap.size ≤ wd.heap.size := HD.out.2.2.2.2.2.1
        clear hd HB
        obtain ⟨p1, hp1⟩ : ∃ p1 : Int, p1 = 1 + ya := ⟨_, rfl⟩
        obtain ⟨p2, hp2⟩ : ∃ p2 : Int, p2 = 1 + yb := ⟨_, rfl⟩
        go_wp2_with fail
        rw [← hp1, ← hp2]
        clear hp1 hp2 hya hyb
        refine (one_any _ _ _ _ _ _ _ _ (by omega) (by omega) (HD.out.2.alloc _).1).mono ?_
        rintro r we ⟨be, rfl, hd⟩
        have hbx : Bx we wd.heap.size [.int .i64 p1, .int .i64 p2, .string sd] := (Bx.new wd [.int .i64 p1, .int .i64 p2, .string sd] 44).trn hd.2 (Or.inr (by omega))
        have HE : Hid (OpIn we w.heap.size u3 k ∧ Drew g a n cap X (t + 6 + 12 * k + 10) w we ∧ Bx we wd.heap.size [.int .i64 p1, .int .i64 p2, .string sd] ∧ ∀ b, u3.ownBlock = some b → b < wd.heap.size) := ⟨(HD.out.1.next (Go.Joins.below_alloc1 _ _)).trn hd.2 (by omega), (HD.out.2.alloc _).trans hd, hbx, fun b hb => (HD.out.1.lt b hb).2⟩
        have hze : wd.heap.size < we.heap.size := hbx.2
        clear hd HD
        cases be
        · obtain ⟨K, T, S, ho, hS⟩ := HE.out.1
          have HO : Hid (we.ownsRow w.heap.size 44 3 u3 k (cellsL (opF K T S) 3 k) ∧ ∀ i, i < k → (S i).size ≤ 21) := ⟨ho, hS⟩
          have q0 := hbx.cell 0 rfl
          have q1 := hbx.cell 1 rfl
          have q2 := hbx.cell 2 rfl
          clear ho hS hbx
          go_wp2_with (first
            | (at_builtin; refine wpList_append_own_at _ rfl (.tmp 38) (.tmp 40) 32 rfl w.heap.size 44 i0 (.agg #[.int .i64 0, .int .i64 0, .string ⟨#[]⟩]) 3 32 Try.underlying32 hi0 hz0 hz1 hz2 rfl (by decide) u3 k (cellsL (opF K T S) 3 k) rfl (World.ownsRow.alloc HO.out.1 _) ⟨_, 0, none⟩ 1 1 [.int .i64 p1, .int .i64 p2, .string sd] rfl rfl (op_at (by first | rfl | simp) _ _) (by intro u hu; simp at hu; rcases hu with rfl | rfl | rfl <;> rfl) (by unfold maxLen; omega) (by omega) (by simp <;> omega) ?_; intro v4 w4 hown hgrow hnil hwhere)
            | go_in)
          have HF : Hid (OpIn w4 w.heap.size v4 (k + 1) ∧ Drew g a n cap X (t + 6 + 12 * (k + 1)) w w4) := ⟨OpIn.snoc hown HO.out.2 hsd, ((HE.out.2.1.alloc _).grown hgrow hgw (fun j hj => (HO.out.1.lt j hj).1)).up (by omega)⟩
          clear hown hgrow hnil hwhere HO HE q0 q1 q2
          go_wp2
          go_roundw
          case rel => exact ⟨k + 1, by omega, by go_num, HF.out.1, HF.out.2⟩
          case measure => simp [intOf]; omega
        · have f2 := hbx.frz 2 (by simp)
          have q2 := hbx.cell 2 rfl
          have hbx2 := hbx.set (k := 2) (by simp) (.string ⟨#[]⟩)
          have HE2 : Hid (OpIn (we.setCell ⟨wd.heap.size, 2, none⟩ (.string ⟨#[]⟩)) w.heap.size u3 k ∧ Drew g a n cap X (t + 6 + 12 * k + 10) w (we.setCell ⟨wd.heap.size, 2, none⟩ (.string ⟨#[]⟩))) := ⟨HE.out.1.set (fun b hb => by have := HE.out.2.2.2 b hb; omega), HE.out.2.1.out hgw (by omega) _⟩
          obtain ⟨K, T, S, ho, hS⟩ := HE2.out.1
          have HO : Hid ((we.setCell ⟨wd.heap.size, 2, none⟩ (.string ⟨#[]⟩)).ownsRow w.heap.size 44 3 u3 k (cellsL (opF K T S) 3 k) ∧ ∀ i, i < k → (S i).size ≤ 21) := ⟨ho, hS⟩
          have r0 := hbx2.cell 0 rfl
          have r1 := hbx2.cell 1 rfl
          have r2 := hbx2.cell 2 rfl
          clear ho hS hbx hbx2 HE
          go_wp2_with (first
            | (at_builtin; refine wpList_append_own_at _ rfl (.tmp 38) (.tmp 40) 32 rfl w.heap.size 44 i0 (.agg #[.int .i64 0, .int .i64 0, .string ⟨#[]⟩]) 3 32 Try.underlying32 hi0 hz0 hz1 hz2 rfl (by decide) u3 k (cellsL (opF K T S) 3 k) rfl (World.ownsRow.alloc HO.out.1 _) ⟨_, 0, none⟩ 1 1 [.int .i64 p1, .int .i64 p2, .string ⟨#[]⟩] rfl rfl (op_at (by first | rfl | simp) _ _) (by intro u hu; simp at hu; rcases hu with rfl | rfl | rfl <;> rfl) (by unfold maxLen; omega) (by omega) (by simp <;> omega) ?_; intro v4 w4 hown hgrow hnil hwhere)
            | go_in)
          have HF : Hid (OpIn w4 w.heap.size v4 (k + 1) ∧ Drew g a n cap X (t + 6 + 12 * (k + 1)) w w4) := ⟨OpIn.snoc hown HO.out.2 (by decide), ((HE2.out.2.alloc _).grown hgrow hgw (fun j hj => (HO.out.1.lt j hj).1)).up (by omega)⟩
          clear hown hgrow hnil hwhere HO HE2 q2 r0 r1 r2 f2
          go_wp2
          go_roundw
          case rel => exact ⟨k + 1, by omega, by go_num, HF.out.1, HF.out.2⟩
          case measure => simp [intOf]; omega
      · have hkn : k = N := by omega
        subst hkn
        have hlt' : ¬ 0 < (k : Int) - (k : Int) := by omega
        obtain ⟨wo, hwo⟩ : ∃ x, x = wr := ⟨wr, rfl⟩
        subst hwo
        obtain ⟨K, T, S, ho, hS⟩ := HL.out.1
        obtain ⟨a4, cap4, rfl, hc4, hx⟩ := SRow.of ho
        have hzo : w.heap.size ≤ wo.heap.size := HL.out.2.2.2.2.2.1
        have HS : Hid (SRow wo w.heap.size wo.heap.size a4 k 3 (opF K T S) ∧ (∀ i, i < k → (S i).size ≤ 21) ∧ Drew g a n cap X (t + 606) w wo) := ⟨hx, hS, HL.out.2.up (by omega)⟩
        clear ho hx HL hS
        go_wp2
        go_loopw [44, 7] (fun x v wr => ∃ i m : Nat, i ≤ k ∧ m ≤ 2 * i ∧ x = .int .i64 i ∧ OpIn wr wo.heap.size v m ∧ SRow wr w.heap.size wo.heap.size a4 k 3 (opF K T S) ∧ Drew g a n cap X (t + 606 + 2 * i) w wr) (fun x _ _ => k - (intOf x).toNat)
        case atStart => exact ⟨0, 0, Nat.zero_le _, Nat.zero_le _, rfl, OpIn.nil _ _, HS.out.1, HS.out.2.2⟩
        case round =>
          obtain ⟨i, m, hi, hm, rfl, hO, hsr, hd⟩ := hrel
          obtain ⟨wi, hwi⟩ : ∃ x, x = wr := ⟨wr, rfl⟩
          subst hwi
          have HQ : Hid (OpIn wi wo.heap.size u7 m ∧ SRow wi w.heap.size wo.heap.size a4 k 3 (opF K T S) ∧ Drew g a n cap X (t + 606 + 2 * i) w wi) := ⟨hO, hsr, hd⟩
          have hzi : wo.heap.size ≤ wi.heap.size := hsr.2
          clear hO hd
          by_cases hik : i < k
          · have hik' : (i : Int) < (k : Int) := by omega
            have hic : (i : Int) + 1 ≤ (cap4 : Int) := by omega
            rcases hsr.1 with h | ⟨gl, rfl, hB, hC, hgl, hE, hR⟩
            · omega
            obtain ⟨c0, c1, c2⟩ := op_cells hE hik
            rw [Nat.zero_add] at c0 c1 c2
            have hsi := HS.out.2.1 i hik
            obtain ⟨K', T', S', ho, hS⟩ := HQ.out.1
            have HO : Hid (wi.ownsRow wo.heap.size 44 3 u7 m (cellsL (opF K' T' S') 3 m) ∧ ∀ i, i < m → (S' i).size ≤ 21) := ⟨ho, hS⟩
            have hbx := Bx.new wi [.int .i64 (K i), .int .i64 (T i), .string (S i)] 44
            clear hsr hE hR ho hS
            obtain ⟨ki, hki⟩ : ∃ ki, ki = K i := ⟨_, rfl⟩
            obtain ⟨ti, hti⟩ : ∃ ti, ti = T i := ⟨_, rfl⟩
            obtain ⟨si, hsi2⟩ : ∃ si, si = S i := ⟨_, rfl⟩
            rw [← hki, ← hti, ← hsi2] at hbx
            rw [← hki] at c0
            rw [← hti] at c1
            rw [← hsi2] at c2 hsi
            clear hki hti hsi2
            go_wp2_with (first
              | (at_builtin; refine wpList_append_own_at _ rfl (.tmp 49) (.tmp 51) 32 rfl wo.heap.size 44 i0 (.agg #[.int .i64 0, .int .i64 0, .string ⟨#[]⟩]) 3 32 Try.underlying32 hi0 hz0 hz1 hz2 rfl (by decide) u7 m (cellsL (opF K' T' S') 3 m) rfl (World.ownsRow.alloc (World.ownsRow.alloc HO.out.1 _) _) ⟨_, 0, none⟩ 1 1 [.int .i64 ki, .int .i64 ti, .string si] rfl rfl (op_at (by first | rfl | simp) _ _) (by intro u hu; simp at hu; rcases hu with rfl | rfl | rfl <;> rfl) (by unfold maxLen; omega) (by omega) (by simp <;> omega) ?_; intro v4 w4 hown hgrow hnil hwhere)
              | go_in)
            · try subst h
              have HR4 : Hid (OpIn w4 wo.heap.size v4 (m + 1) ∧ SRow w4 w.heap.size wo.heap.size (some ⟨gl, 0, none⟩) k 3 (opF K T S) ∧ Bx w4 wi.heap.size [.int .i64 ki, .int .i64 ti, .string si] ∧ Drew g a n cap X (t + 606 + 2 * i) w w4) := by
                have hne : ∀ j, u7.ownBlock = some j → wo.heap.size ≤ j ∧ j < wi.heap.size := fun j hj => HO.out.1.lt j hj
                refine ⟨OpIn.snoc hown HO.out.2 hsi, ((HQ.out.2.1.next (Go.Joins.below_alloc1 _ _)).next (Go.Joins.below_alloc1 _ _)).grew hgrow (fun q hq => Or.inr (hne q hq).1), ((hbx.alloc _).grown hgrow hgrow.size (fun e => by have := hne _ e.symm; omega)), ((HQ.out.2.2.alloc _).alloc _).grown hgrow hgw (fun j hj => by have := hne j hj; omega)⟩
              clear hown hgrow hnil hwhere HO hbx c0 c1 c2 HQ
              go_loopw [58, 10] (fun x b wr => ∃ (q : Nat) (bb : Bool), q ≤ k - (i + 1) ∧ x = .int .i64 q ∧ b = .bool bb ∧ OpIn wr wo.heap.size v4 (m + 1) ∧ SRow wr w.heap.size wo.heap.size (some ⟨gl, 0, none⟩) k 3 (opF K T S) ∧ Bx wr wi.heap.size [.int .i64 ki, .int .i64 ti, .string si] ∧ Drew g a n cap X (t + 606 + 2 * i) w wr) (fun x _ _ => k - (i + 1) - (intOf x).toNat)
              case atStart => exact ⟨0, false, Nat.zero_le _, rfl, rfl, HR4.out.1, HR4.out.2.1, HR4.out.2.2.1, HR4.out.2.2.2⟩
              case round =>
                obtain ⟨q, bb, hq, rfl, rfl, hO, hsr, hb, hd⟩ := hrel
                clear HR4
                have HR : Hid (OpIn wr wo.heap.size v4 (m + 1) ∧ SRow wr w.heap.size wo.heap.size (some ⟨gl, 0, none⟩) k 3 (opF K T S) ∧ Bx wr wi.heap.size [.int .i64 ki, .int .i64 ti, .string si] ∧ Drew g a n cap X (t + 606 + 2 * i) w wr) := ⟨hO, hsr, hb, hd⟩
                by_cases hql : q < k - (i + 1)
                · exfalso; omega
                · have hq2 : q = k - (i + 1) := by omega
                  subst hq2
                  have hql' : ¬ (((k - (i + 1) : Nat) : Int) < ((k - (i + 1) : Nat) : Int)) := by omega
                  clear hO hsr hd
                  have y1 := hb.cell 1 rfl
                  have yl := hb.2
                  clear hb
                  cases bb
                  · go_wp2_with fail
                    refine (one_any _ _ _ _ _ _ _ _ (by omega) (by omega) HR.out.2.2.2.1).mono ?_
                    rintro r w5 ⟨b5, rfl, hd⟩
                    have HR5 : Hid (OpIn w5 wo.heap.size v4 (m + 1) ∧ SRow w5 w.heap.size wo.heap.size (some ⟨gl, 0, none⟩) k 3 (opF K T S) ∧ Drew g a n cap X (t + 606 + 2 * (i + 1)) w w5) := ⟨HR.out.1.trn hd.2 (by omega), HR.out.2.1.trn hd.2 (Or.inr (by omega)), (HR.out.2.2.2.trans hd).up (by omega)⟩
                    have y5 : w5.cell? ⟨wi.heap.size, 1, none⟩ = some (.int .i64 ti) := (HR.out.2.2.1.trn hd.2 (Or.inr (by omega))).cell 1 rfl
                    have yl5 : wi.heap.size < w5.heap.size := (HR.out.2.2.1.trn hd.2 (Or.inr (by omega))).2
                    have hz5 : wo.heap.size ≤ w5.heap.size := HR5.out.2.1.2
                    clear hd HR y1 yl
                    cases b5
                    · obtain ⟨K', T', S', ho, hS⟩ := HR5.out.1
                      have HO : Hid (w5.ownsRow wo.heap.size 44 3 v4 (m + 1) (cellsL (opF K' T' S') 3 (m + 1)) ∧ ∀ i, i < m + 1 → (S' i).size ≤ 21) := ⟨ho, hS⟩
                      clear ho hS
                      go_wp2_with (first
                        | (at_builtin; refine wpList_append_own_at _ rfl (.tmp 78) (.tmp 82) 32 rfl wo.heap.size 44 i0 (.agg #[.int .i64 0, .int .i64 0, .string ⟨#[]⟩]) 3 32 Try.underlying32 hi0 hz0 hz1 hz2 rfl (by decide) v4 (m + 1) (cellsL (opF K' T' S') 3 (m + 1)) rfl (World.ownsRow.alloc HO.out.1 _) ⟨_, 0, none⟩ 1 1 [.int .i64 3, .int .i64 ti, .string ⟨#[]⟩] rfl rfl (op_at (by first | rfl | simp) _ _) (by intro u hu; simp at hu; rcases hu with rfl | rfl | rfl <;> rfl) (by unfold maxLen; omega) (by omega) (by simp <;> omega) ?_; intro v6 w6 hown hgrow hnil hwhere)
                        | go_in)
                      have HF : Hid (OpIn w6 wo.heap.size v6 (m + 1 + 1) ∧ SRow w6 w.heap.size wo.heap.size (some ⟨gl, 0, none⟩) k 3 (opF K T S) ∧ Drew g a n cap X (t + 606 + 2 * (i + 1)) w w6) := by
                        have hne : ∀ j, v4.ownBlock = some j → wo.heap.size ≤ j ∧ j < w5.heap.size := fun j hj => HO.out.1.lt j hj
                        exact ⟨OpIn.snoc hown HO.out.2 (by decide), (HR5.out.2.1.next (Go.Joins.below_alloc1 _ _)).grew hgrow (fun q hq => Or.inr (hne q hq).1), (HR5.out.2.2.alloc _).grown hgrow hgw (fun j hj => by have := hne j hj; omega)⟩
                      clear hown hgrow hnil hwhere HO HR5
                      go_wp2
                      go_roundw
                      case rel => exact ⟨i + 1, m + 1 + 1, by omega, by omega, by go_num, HF.out.1, HF.out.2.1, HF.out.2.2⟩
                      case measure => simp [intOf]; omega
                    · go_wp2
                      go_roundw
                      case rel => exact ⟨i + 1, m + 1, by omega, by omega, by go_num, HR5.out.1, HR5.out.2.1, HR5.out.2.2⟩
                      case measure => simp [intOf]; omega
                  · go_wp2
                    go_roundw
                    case rel => exact ⟨i + 1, m + 1, by omega, by omega, by go_num, HR.out.1, HR.out.2.1, HR.out.2.2.2.up (by omega)⟩
                    case measure => simp [intOf]; omega
            · try subst h
              have HR4 : Hid (OpIn w4 wo.heap.size v4 (m + 1) ∧ SRow w4 w.heap.size wo.heap.size (some ⟨gl, 0, none⟩) k 3 (opF K T S) ∧ Bx w4 wi.heap.size [.int .i64 ki, .int .i64 ti, .string si] ∧ Drew g a n cap X (t + 606 + 2 * i) w w4) := by
                have hne : ∀ j, u7.ownBlock = some j → wo.heap.size ≤ j ∧ j < wi.heap.size := fun j hj => HO.out.1.lt j hj
                refine ⟨OpIn.snoc hown HO.out.2 hsi, ((HQ.out.2.1.next (Go.Joins.below_alloc1 _ _)).next (Go.Joins.below_alloc1 _ _)).grew hgrow (fun q hq => Or.inr (hne q hq).1), ((hbx.alloc _).grown hgrow hgrow.size (fun e => by have := hne _ e.symm; omega)), ((HQ.out.2.2.alloc _).alloc _).grown hgrow hgw (fun j hj => by have := hne j hj; omega)⟩
              clear hown hgrow hnil hwhere HO hbx c0 c1 c2 HQ
              go_loopw [58, 10] (fun x b wr => ∃ (q : Nat) (bb : Bool), q ≤ k - (i + 1) ∧ x = .int .i64 q ∧ b = .bool bb ∧ OpIn wr wo.heap.size v4 (m + 1) ∧ SRow wr w.heap.size wo.heap.size (some ⟨gl, 0, none⟩) k 3 (opF K T S) ∧ Bx wr wi.heap.size [.int .i64 ki, .int .i64 ti, .string si] ∧ Drew g a n cap X (t + 606 + 2 * i) w wr) (fun x _ _ => k - (i + 1) - (intOf x).toNat)
              case atStart => exact ⟨0, false, Nat.zero_le _, rfl, rfl, HR4.out.1, HR4.out.2.1, HR4.out.2.2.1, HR4.out.2.2.2⟩
              case round =>
                obtain ⟨q, bb, hq, rfl, rfl, hO, hsr, hb, hd⟩ := hrel
                clear HR4
                have HR : Hid (OpIn wr wo.heap.size v4 (m + 1) ∧ SRow wr w.heap.size wo.heap.size (some ⟨gl, 0, none⟩) k 3 (opF K T S) ∧ Bx wr wi.heap.size [.int .i64 ki, .int .i64 ti, .string si] ∧ Drew g a n cap X (t + 606 + 2 * i) w wr) := ⟨hO, hsr, hb, hd⟩
                by_cases hql : q < k - (i + 1)
                · have hql' : (q : Int) < ((k - (i + 1) : Nat) : Int) := by omega
                  rcases hsr.1 with h | ⟨g', e', hB', hC', hgl', hE', hR'⟩
                  · omega
                  cases e'
                  obtain ⟨d0, d1, d2⟩ := op_cells hE' (show i + 1 + q < k by omega)
                  rw [off_at, Nat.zero_add] at d0 d1 d2
                  have y1 := hb.cell 1 rfl
                  have yl := hb.2
                  have hzr : wo.heap.size ≤ wr.heap.size := hsr.2
                  obtain ⟨kq, hkq⟩ : ∃ kq, kq = K (i + 1 + q) := ⟨_, rfl⟩
                  obtain ⟨tq, htq⟩ : ∃ tq, tq = T (i + 1 + q) := ⟨_, rfl⟩
                  obtain ⟨sq, hsq⟩ : ∃ sq, sq = S (i + 1 + q) := ⟨_, rfl⟩
                  rw [← hkq] at d0
                  rw [← htq] at d1
                  rw [← hsq] at d2
                  have HN : Hid (OpIn (wr.alloc (.cells #[.int .i64 kq, .int .i64 tq, .string sq] 44)) wo.heap.size v4 (m + 1) ∧ SRow (wr.alloc (.cells #[.int .i64 kq, .int .i64 tq, .string sq] 44)) w.heap.size wo.heap.size (some ⟨gl, 0, none⟩) k 3 (opF K T S) ∧ Bx (wr.alloc (.cells #[.int .i64 kq, .int .i64 tq, .string sq] 44)) wi.heap.size [.int .i64 ki, .int .i64 ti, .string si] ∧ Drew g a n cap X (t + 606 + 2 * i) w (wr.alloc (.cells #[.int .i64 kq, .int .i64 tq, .string sq] 44))) := ⟨hO.next (Go.Joins.below_alloc1 _ _), hsr.next (Go.Joins.below_alloc1 _ _), hb.alloc _, hd.alloc _⟩
                  clear hO hsr hb hd hE' hR' HR hkq htq hsq
                  cases bb
                  all_goals
                    go_wp2
                    go_roundw
                    (case rel => exact ⟨q + 1, _, by omega, by go_num, rfl, HN.out.1, HN.out.2.1, HN.out.2.2.1, HN.out.2.2.2⟩)
                    (case measure => simp [intOf]; omega)
                · have hq2 : q = k - (i + 1) := by omega
                  subst hq2
                  have hql' : ¬ (((k - (i + 1) : Nat) : Int) < ((k - (i + 1) : Nat) : Int)) := by omega
                  clear hO hsr hd
                  have y1 := hb.cell 1 rfl
                  have yl := hb.2
                  clear hb
                  cases bb
                  · go_wp2_with fail
                    refine (one_any _ _ _ _ _ _ _ _ (by omega) (by omega) HR.out.2.2.2.1).mono ?_
                    rintro r w5 ⟨b5, rfl, hd⟩
                    have HR5 : Hid (OpIn w5 wo.heap.size v4 (m + 1) ∧ SRow w5 w.heap.size wo.heap.size (some ⟨gl, 0, none⟩) k 3 (opF K T S) ∧ Drew g a n cap X (t + 606 + 2 * (i + 1)) w w5) := ⟨HR.out.1.trn hd.2 (by omega), HR.out.2.1.trn hd.2 (Or.inr (by omega)), (HR.out.2.2.2.trans hd).up (by omega)⟩
                    have y5 : w5.cell? ⟨wi.heap.size, 1, none⟩ = some (.int .i64 ti) := (HR.out.2.2.1.trn hd.2 (Or.inr (by omega))).cell 1 rfl
                    have yl5 : wi.heap.size < w5.heap.size := (HR.out.2.2.1.trn hd.2 (Or.inr (by omega))).2
                    have hz5 : wo.heap.size ≤ w5.heap.size := HR5.out.2.1.2
                    clear hd HR y1 yl
                    cases b5
                    · obtain ⟨K', T', S', ho, hS⟩ := HR5.out.1
                      have HO : Hid (w5.ownsRow wo.heap.size 44 3 v4 (m + 1) (cellsL (opF K' T' S') 3 (m + 1)) ∧ ∀ i, i < m + 1 → (S' i).size ≤ 21) := ⟨ho, hS⟩
                      clear ho hS
                      go_wp2_with (first
                        | (at_builtin; refine wpList_append_own_at _ rfl (.tmp 78) (.tmp 82) 32 rfl wo.heap.size 44 i0 (.agg #[.int .i64 0, .int .i64 0, .string ⟨#[]⟩]) 3 32 Try.underlying32 hi0 hz0 hz1 hz2 rfl (by decide) v4 (m + 1) (cellsL (opF K' T' S') 3 (m + 1)) rfl (World.ownsRow.alloc HO.out.1 _) ⟨_, 0, none⟩ 1 1 [.int .i64 3, .int .i64 ti, .string ⟨#[]⟩] rfl rfl (op_at (by first | rfl | simp) _ _) (by intro u hu; simp at hu; rcases hu with rfl | rfl | rfl <;> rfl) (by unfold maxLen; omega) (by omega) (by simp <;> omega) ?_; intro v6 w6 hown hgrow hnil hwhere)
                        | go_in)
                      have HF : Hid (OpIn w6 wo.heap.size v6 (m + 1 + 1) ∧ SRow w6 w.heap.size wo.heap.size (some ⟨gl, 0, none⟩) k 3 (opF K T S) ∧ Drew g a n cap X (t + 606 + 2 * (i + 1)) w w6) := by
                        have hne : ∀ j, v4.ownBlock = some j → wo.heap.size ≤ j ∧ j < w5.heap.size := fun j hj => HO.out.1.lt j hj
                        exact ⟨OpIn.snoc hown HO.out.2 (by decide), (HR5.out.2.1.next (Go.Joins.below_alloc1 _ _)).grew hgrow (fun q hq => Or.inr (hne q hq).1), (HR5.out.2.2.alloc _).grown hgrow hgw (fun j hj => by have := hne j hj; omega)⟩
                      clear hown hgrow hnil hwhere HO HR5
                      go_wp2
                      go_roundw
                      case rel => exact ⟨i + 1, m + 1 + 1, by omega, by omega, by go_num, HF.out.1, HF.out.2.1, HF.out.2.2⟩
                      case measure => simp [intOf]; omega
                    · go_wp2
                      go_roundw
                      case rel => exact ⟨i + 1, m + 1, by omega, by omega, by go_num, HR5.out.1, HR5.out.2.1, HR5.out.2.2⟩
                      case measure => simp [intOf]; omega
                  · go_wp2
                    go_roundw
                    case rel => exact ⟨i + 1, m + 1, by omega, by omega, by go_num, HR.out.1, HR.out.2.1, HR.out.2.2.2.up (by omega)⟩
                    case measure => simp [intOf]; omega
          · have hkn : ¬ (i : Int) < (k : Int) := by omega
            have HQ4 : Hid (OpIn wi wo.heap.size u7 m ∧ Drew g a n cap X (t + 708) w wi) := ⟨HQ.out.1, HQ.out.2.2.up (by omega)⟩
            clear HQ hsr
            go_wp2
            go_loopw [13, 7] (fun x v wr => ∃ (j m : Nat), 1 ≤ j ∧ j ≤ 5 ∧ m ≤ 100 + j ∧ x = .int .i64 j ∧ OpIn wr wo.heap.size v m ∧ Drew g a n cap X (t + 706 + 2 * j) w wr ∧ wo.heap.size ≤ wr.heap.size) (fun x _ _ => 5 - (intOf x).toNat)
            case atStart => exact ⟨1, m, by omega, by omega, by omega, rfl, HQ4.out.1, HQ4.out.2, hzi⟩
            case round =>
              obtain ⟨j, m, hj1, hj5, hm, rfl, hO, hd, hzj⟩ := hrel
              clear HQ4
              obtain ⟨wj, hwj⟩ : ∃ x, x = wr := ⟨wr, rfl⟩
              subst hwj
              obtain ⟨K', T', S', ho, hS⟩ := hO
              obtain ⟨a5, cap5, rfl, hc5, hx5⟩ := SRow.of ho
              have HQ5 : Hid (wj.ownsRow wo.heap.size 44 3 (.slice a5 m cap5) m (cellsL (opF K' T' S') 3 m) ∧ (∀ i, i < m → (S' i).size ≤ 21) ∧ Drew g a n cap X (t + 706 + 2 * j) w wj ∧ Sl wj a5 m 3 (opF K' T' S')) := ⟨ho, hS, hd, hx5.sl⟩
              clear ho hS hd hx5
              by_cases hjm : (j : Int) ≤ mm
              · go_wp2_with fail
                refine (l3Commit_any _ _ _ K' T' S' _ _ (by omega) HQ5.out.2.2.2).mono ?_
                rintro r w6 ⟨rfl, hb6⟩
                obtain ⟨cm, hcm⟩ : ∃ cm, cm = comF K' T' m (j : Int) := ⟨_, rfl⟩
                rw [← hcm]
                have HQ6 : Hid (w6.ownsRow wo.heap.size 44 3 (.slice a5 m cap5) m (cellsL (opF K' T' S') 3 m) ∧ (∀ i, i < m → (S' i).size ≤ 21) ∧ Drew g a n cap X (t + 706 + 2 * j) w w6) := ⟨own_keep HQ5.out.1 hb6, HQ5.out.2.1, HQ5.out.2.2.1.next hb6⟩
                have hz6 : wo.heap.size ≤ w6.heap.size := Nat.le_trans hzj hb6.size
                clear hb6 HQ5 hcm
                by_cases hcz : cm < 0
                · go_wp2_with fail
                  refine (one_any _ _ _ _ _ _ _ _ (by omega) (by omega) HQ6.out.2.2.1).mono ?_
                  rintro r w7 ⟨b7, rfl, hd⟩
                  have HO : Hid (w7.ownsRow wo.heap.size 44 3 (.slice a5 m cap5) m (cellsL (opF K' T' S') 3 m) ∧ (∀ i, i < m → (S' i).size ≤ 21) ∧ Drew g a n cap X (t + 706 + 2 * (j + 1)) w w7) := ⟨own_trn HQ6.out.1 hd.2 (by omega), HQ6.out.2.1, (HQ6.out.2.2.trans hd).up (by omega)⟩
                  have hz7 : wo.heap.size ≤ w7.heap.size := Nat.le_trans hz6 hd.2.2.2.2.1
                  clear hd HQ6
                  cases b7
                  · go_wp2_with (first
                      | (at_builtin; refine wpList_append_own_at _ rfl (.tmp 99) (.tmp 102) 32 rfl wo.heap.size 44 i0 (.agg #[.int .i64 0, .int .i64 0, .string ⟨#[]⟩]) 3 32 Try.underlying32 hi0 hz0 hz1 hz2 rfl (by decide) (.slice a5 m cap5) m (cellsL (opF K' T' S') 3 m) rfl (World.ownsRow.alloc HO.out.1 _) ⟨_, 0, none⟩ 1 1 [.int .i64 3, .int .i64 (j : Int), .string ⟨#[]⟩] rfl rfl (op_at (by first | rfl | simp) _ _) (by intro u hu; simp at hu; rcases hu with rfl | rfl | rfl <;> rfl) (by unfold maxLen; omega) (by omega) (by simp <;> omega) ?_; intro v8 w8 hown hgrow hnil hwhere)
                      | go_in)
                    have HF : Hid (OpIn w8 wo.heap.size v8 (m + 1) ∧ Drew g a n cap X (t + 706 + 2 * (j + 1)) w w8 ∧ wo.heap.size ≤ w8.heap.size) := by
                      have hne : ∀ q, (Value.slice a5 m cap5).ownBlock = some q → wo.heap.size ≤ q := fun q hq => (HO.out.1.lt q hq).1
                      exact ⟨OpIn.snoc hown HO.out.2.1 (by decide), (HO.out.2.2.alloc _).grown hgrow hgw (fun q hq => by have := hne q hq; omega), by have := hgrow.size; rw [World.size_alloc] at this; omega⟩
                    clear hown hgrow hnil hwhere HO
                    go_wp2
                    go_roundw
                    case rel => exact ⟨j + 1, m + 1, by omega, by omega, by omega, by go_num, HF.out.1, HF.out.2.1, HF.out.2.2⟩
                    case measure => simp [intOf]; omega
                  · go_wp2
                    go_roundw
                    case rel => exact ⟨j + 1, m, by omega, by omega, by omega, by go_num, ⟨K', T', S', HO.out.1, HO.out.2.1⟩, HO.out.2.2, hz7⟩
                    case measure => simp [intOf]; omega
                · go_wp2
                  go_roundw
                  case rel => exact ⟨j + 1, m, by omega, by omega, by omega, by go_num, ⟨K', T', S', HQ6.out.1, HQ6.out.2.1⟩, HQ6.out.2.2.up (by omega), hz6⟩
                  case measure => simp [intOf]; omega
              · have HF : Hid (OpsDrew g a n cap X t w (.returned (.slice a5 m cap5)) wj) := ⟨_, m, by omega, rfl, ⟨K', T', S', ⟨HQ5.out.1.1, by
                    rcases HQ5.out.1.2 with h | ⟨b, c, cur, hv, hb, r⟩
                    · exact Or.inl h
                    · exact Or.inr ⟨b, c, cur, hv, by omega, r⟩⟩, HQ5.out.2.1⟩, HQ5.out.2.2.1.up (by omega)⟩
                clear HQ5
                go_wp2
                go_ret
                exact HF.out

  · obtain ⟨N, hN, hNx⟩ : ∃ N : Nat, N ≤ 50 ∧ (50 : Int) = (N : Int) := ⟨50, by omega, by omega⟩
    go_wp2
    try rw [← hmm]
    try rw [hNx]
    have hNx0 : Hid ((50 : Int) = (N : Int)) := hNx
    clear hNx hx1 hx2 hmm
    go_loopw [5, 3] (fun i v wr => ∃ k : Nat, k ≤ N ∧ i = .int .i64 ((N : Int) - k) ∧ OpIn wr w.heap.size v k ∧ Drew g a n cap X (t + 6 + 12 * k) w wr) (fun i _ _ => (intOf i).toNat)
    case atStart => exact ⟨0, Nat.zero_le _, by (have := hNx0.out; congr 1 <;> omega), OpIn.nil _ _, H3.out⟩
    case round =>
      obtain ⟨k, hk, rfl, hO, hd⟩ := hrel
      clear H3
      have HL : Hid (OpIn wr w.heap.size u3 k ∧ Drew g a n cap X (t + 6 + 12 * k) w wr) := ⟨hO, hd⟩
      clear hO hd
      by_cases hlt : k < N
      · have hlt' : 0 < (N : Int) - (k : Int) := by omega
        go_wp2_with fail
        refine (pick_any _ _ _ _ _ _ _ _ (by omega) (by omega) HL.out.2.1).mono ?_
        rintro r wa ⟨ya, hya, rfl, hd⟩
        have HA : Hid (OpIn wa w.heap.size u3 k ∧ Drew g a n cap X (t + 6 + 12 * k + 2) w wa) := ⟨HL.out.1.trn hd.2 (by omega), HL.out.2.trans hd⟩
        clear hd HL
        go_wp2_with fail
        refine (pick_any _ _ _ _ _ _ _ _ (by omega) (by omega) HA.out.2.1).mono ?_
        rintro r wb ⟨yb, hyb, rfl, hd⟩
        have HB : Hid (OpIn wb w.heap.size u3 k ∧ Drew g a n cap X (t + 6 + 12 * k + 4) w wb) := ⟨HA.out.1.trn hd.2 (by omega), HA.out.2.trans hd⟩
        clear hd HA
        go_wp2_with fail
        refine (key_any _ _ _ _ _ _ _ (by omega) HB.out.2.1).mono ?_
        rintro r wd ⟨sd, hsd, rfl, hd⟩
        have HD : Hid (OpIn wd w.heap.size u3 k ∧ Drew g a n cap X (t + 6 + 12 * k + 8) w wd) := ⟨HB.out.1.trn hd.2 (by omega), HB.out.2.trans hd⟩
        have hzd : w.heap.size ≤ wd.heap.size := HD.out.2.2.2.2.2.1
        clear hd HB
        obtain ⟨p1, hp1⟩ : ∃ p1 : Int, p1 = 1 + ya := ⟨_, rfl⟩
        obtain ⟨p2, hp2⟩ : ∃ p2 : Int, p2 = 1 + yb := ⟨_, rfl⟩
        go_wp2_with fail
        rw [← hp1, ← hp2]
        clear hp1 hp2 hya hyb
        refine (one_any _ _ _ _ _ _ _ _ (by omega) (by omega) (HD.out.2.alloc _).1).mono ?_
        rintro r we ⟨be, rfl, hd⟩
        have hbx : Bx we wd.heap.size [.int .i64 p1, .int .i64 p2, .string sd] := (Bx.new wd [.int .i64 p1, .int .i64 p2, .string sd] 44).trn hd.2 (Or.inr (by omega))
        have HE : Hid (OpIn we w.heap.size u3 k ∧ Drew g a n cap X (t + 6 + 12 * k + 10) w we ∧ Bx we wd.heap.size [.int .i64 p1, .int .i64 p2, .string sd] ∧ ∀ b, u3.ownBlock = some b → b < wd.heap.size) := ⟨(HD.out.1.next (Go.Joins.below_alloc1 _ _)).trn hd.2 (by omega), (HD.out.2.alloc _).trans hd, hbx, fun b hb => (HD.out.1.lt b hb).2⟩
        have hze : wd.heap.size < we.heap.size := hbx.2
        clear hd HD
        cases be
        · obtain ⟨K, T, S, ho, hS⟩ := HE.out.1
          have HO : Hid (we.ownsRow w.heap.size 44 3 u3 k (cellsL (opF K T S) 3 k) ∧ ∀ i, i < k → (S i).size ≤ 21) := ⟨ho, hS⟩
          have q0 := hbx.cell 0 rfl
          have q1 := hbx.cell 1 rfl
          have q2 := hbx.cell 2 rfl
          clear ho hS hbx
          go_wp2_with (first
            | (at_builtin; refine wpList_append_own_at _ rfl (.tmp 38) (.tmp 40) 32 rfl w.heap.size 44 i0 (.agg #[.int .i64 0, .int .i64 0, .string ⟨#[]⟩]) 3 32 Try.underlying32 hi0 hz0 hz1 hz2 rfl (by decide) u3 k (cellsL (opF K T S) 3 k) rfl (World.ownsRow.alloc HO.out.1 _) ⟨_, 0, none⟩ 1 1 [.int .i64 p1, .int .i64 p2, .string sd] rfl rfl (op_at (by first | rfl | simp) _ _) (by intro u hu; simp at hu; rcases hu with rfl | rfl | rfl <;> rfl) (by unfold maxLen; omega) (by omega) (by simp <;> omega) ?_; intro v4 w4 hown hgrow hnil hwhere)
            | go_in)
          have HF : Hid (OpIn w4 w.heap.size v4 (k + 1) ∧ Drew g a n cap X (t + 6 + 12 * (k + 1)) w w4) := ⟨OpIn.snoc hown HO.out.2 hsd, ((HE.out.2.1.alloc _).grown hgrow hgw (fun j hj => (HO.out.1.lt j hj).1)).up (by omega)⟩
          clear hown hgrow hnil hwhere HO HE q0 q1 q2
          go_wp2
          go_roundw
          case rel => exact ⟨k + 1, by omega, by go_num, HF.out.1, HF.out.2⟩
          case measure => simp [intOf]; omega
        · have f2 := hbx.frz 2 (by simp)
          have q2 := hbx.cell 2 rfl
          have hbx2 := hbx.set (k := 2) (by simp) (.string ⟨#[]⟩)
          have HE2 : Hid (OpIn (we.setCell ⟨wd.heap.size, 2, none⟩ (.string ⟨#[]⟩)) w.heap.size u3 k ∧ Drew g a n cap X (t + 6 + 12 * k + 10) w (we.setCell ⟨wd.heap.size, 2, none⟩ (.string ⟨#[]⟩))) := ⟨HE.out.1.set (fun b hb => by have := HE.out.2.2.2 b hb; omega), HE.out.2.1.out hgw (by omega) _⟩
          obtain ⟨K, T, S, ho, hS⟩ := HE2.out.1
          have HO : Hid ((we.setCell ⟨wd.heap.size, 2, none⟩ (.string ⟨#[]⟩)).ownsRow w.heap.size 44 3 u3 k (cellsL (opF K T S) 3 k) ∧ ∀ i, i < k → (S i).size ≤ 21) := ⟨ho, hS⟩
          have r0 := hbx2.cell 0 rfl
          have r1 := hbx2.cell 1 rfl
          have r2 := hbx2.cell 2 rfl
          clear ho hS hbx hbx2 HE
          go_wp2_with (first
            | (at_builtin; refine wpList_append_own_at _ rfl (.tmp 38) (.tmp 40) 32 rfl w.heap.size 44 i0 (.agg #[.int .i64 0, .int .i64 0, .string ⟨#[]⟩]) 3 32 Try.underlying32 hi0 hz0 hz1 hz2 rfl (by decide) u3 k (cellsL (opF K T S) 3 k) rfl (World.ownsRow.alloc HO.out.1 _) ⟨_, 0, none⟩ 1 1 [.int .i64 p1, .int .i64 p2, .string ⟨#[]⟩] rfl rfl (op_at (by first | rfl | simp) _ _) (by intro u hu; simp at hu; rcases hu with rfl | rfl | rfl <;> rfl) (by unfold maxLen; omega) (by omega) (by simp <;> omega) ?_; intro v4 w4 hown hgrow hnil hwhere)
            | go_in)
          have HF : Hid (OpIn w4 w.heap.size v4 (k + 1) ∧ Drew g a n cap X (t + 6 + 12 * (k + 1)) w w4) := ⟨OpIn.snoc hown HO.out.2 (by decide), ((HE2.out.2.alloc _).grown hgrow hgw (fun j hj => (HO.out.1.lt j hj).1)).up (by omega)⟩
          clear hown hgrow hnil hwhere HO HE2 q2 r0 r1 r2 f2
          go_wp2
          go_roundw
          case rel => exact ⟨k + 1, by omega, by go_num, HF.out.1, HF.out.2⟩
          case measure => simp [intOf]; omega
      · have hkn : k = N := by omega
        subst hkn
        have hlt' : ¬ 0 < (k : Int) - (k : Int) := by omega
        obtain ⟨wo, hwo⟩ : ∃ x, x = wr := ⟨wr, rfl⟩
        subst hwo
        obtain ⟨K, T, S, ho, hS⟩ := HL.out.1
        obtain ⟨a4, cap4, rfl, hc4, hx⟩ := SRow.of ho
        have hzo : w.heap.size ≤ wo.heap.size := HL.out.2.2.2.2.2.1
        have HS : Hid (SRow wo w.heap.size wo.heap.size a4 k 3 (opF K T S) ∧ (∀ i, i < k → (S i).size ≤ 21) ∧ Drew g a n cap X (t + 606) w wo) := ⟨hx, hS, HL.out.2.up (by omega)⟩
        clear ho hx HL hS
        go_wp2
        go_loopw [44, 7] (fun x v wr => ∃ i m : Nat, i ≤ k ∧ m ≤ 2 * i ∧ x = .int .i64 i ∧ OpIn wr wo.heap.size v m ∧ SRow wr w.heap.size wo.heap.size a4 k 3 (opF K T S) ∧ Drew g a n cap X (t + 606 + 2 * i) w wr) (fun x _ _ => k - (intOf x).toNat)
        case atStart => exact ⟨0, 0, Nat.zero_le _, Nat.zero_le _, rfl, OpIn.nil _ _, HS.out.1, HS.out.2.2⟩
        case round =>
          obtain ⟨i, m, hi, hm, rfl, hO, hsr, hd⟩ := hrel
          obtain ⟨wi, hwi⟩ : ∃ x, x = wr := ⟨wr, rfl⟩
          subst hwi
          have HQ : Hid (OpIn wi wo.heap.size u7 m ∧ SRow wi w.heap.size wo.heap.size a4 k 3 (opF K T S) ∧ Drew g a n cap X (t + 606 + 2 * i) w wi) := ⟨hO, hsr, hd⟩
          have hzi : wo.heap.size ≤ wi.heap.size := hsr.2
          clear hO hd
          by_cases hik : i < k
          · have hik' : (i : Int) < (k : Int) := by omega
            have hic : (i : Int) + 1 ≤ (cap4 : Int) := by omega
            rcases hsr.1 with h | ⟨gl, rfl, hB, hC, hgl, hE, hR⟩
            · omega
            obtain ⟨c0, c1, c2⟩ := op_cells hE hik
            rw [Nat.zero_add] at c0 c1 c2
            have hsi := HS.out.2.1 i hik
            obtain ⟨K', T', S', ho, hS⟩ := HQ.out.1
            have HO : Hid (wi.ownsRow wo.heap.size 44 3 u7 m (cellsL (opF K' T' S') 3 m) ∧ ∀ i, i < m → (S' i).size ≤ 21) := ⟨ho, hS⟩
            have hbx := Bx.new wi [.int .i64 (K i), .int .i64 (T i), .string (S i)] 44
            clear hsr hE hR ho hS
            obtain ⟨ki, hki⟩ : ∃ ki, ki = K i := ⟨_, rfl⟩
            obtain ⟨ti, hti⟩ : ∃ ti, ti = T i := ⟨_, rfl⟩
            obtain ⟨si, hsi2⟩ : ∃ si, si = S i := ⟨_, rfl⟩
            rw [← hki, ← hti, ← hsi2] at hbx
            rw [← hki] at c0
            rw [← hti] at c1
            rw [← hsi2] at c2 hsi
            clear hki hti hsi2
            go_wp2_with (first
              | (at_builtin; refine wpList_append_own_at _ rfl (.tmp 49) (.tmp 51) 32 rfl wo.heap.size 44 i0 (.agg #[.int .i64 0, .int .i64 0, .string ⟨#[]⟩]) 3 32 Try.underlying32 hi0 hz0 hz1 hz2 rfl (by decide) u7 m (cellsL (opF K' T' S') 3 m) rfl (World.ownsRow.alloc (World.ownsRow.alloc HO.out.1 _) _) ⟨_, 0, none⟩ 1 1 [.int .i64 ki, .int .i64 ti, .string si] rfl rfl (op_at (by first | rfl | simp) _ _) (by intro u hu; simp at hu; rcases hu with rfl | rfl | rfl <;> rfl) (by unfold maxLen; omega) (by omega) (by simp <;> omega) ?_; intro v4 w4 hown hgrow hnil hwhere)
              | go_in)
            · try subst h
              have HR4 : Hid (OpIn w4 wo.heap.size v4 (m + 1) ∧ SRow w4 w.heap.size wo.heap.size (some ⟨gl, 0, none⟩) k 3 (opF K T S) ∧ Bx w4 wi.heap.size [.int .i64 ki, .int .i64 ti, .string si] ∧ Drew g a n cap X (t + 606 + 2 * i) w w4) := by
                have hne : ∀ j, u7.ownBlock = some j → wo.heap.size ≤ j ∧ j < wi.heap.size := fun j hj => HO.out.1.lt j hj
                refine ⟨OpIn.snoc hown HO.out.2 hsi, ((HQ.out.2.1.next (Go.Joins.below_alloc1 _ _)).next (Go.Joins.below_alloc1 _ _)).grew hgrow (fun q hq => Or.inr (hne q hq).1), ((hbx.alloc _).grown hgrow hgrow.size (fun e => by have := hne _ e.symm; omega)), ((HQ.out.2.2.alloc _).alloc _).grown hgrow hgw (fun j hj => by have := hne j hj; omega)⟩
              clear hown hgrow hnil hwhere HO hbx c0 c1 c2 HQ
              go_loopw [58, 10] (fun x b wr => ∃ (q : Nat) (bb : Bool), q ≤ k - (i + 1) ∧ x = .int .i64 q ∧ b = .bool bb ∧ OpIn wr wo.heap.size v4 (m + 1) ∧ SRow wr w.heap.size wo.heap.size (some ⟨gl, 0, none⟩) k 3 (opF K T S) ∧ Bx wr wi.heap.size [.int .i64 ki, .int .i64 ti, .string si] ∧ Drew g a n cap X (t + 606 + 2 * i) w wr) (fun x _ _ => k - (i + 1) - (intOf x).toNat)
              case atStart => exact ⟨0, false, Nat.zero_le _, rfl, rfl, HR4.out.1, HR4.out.2.1, HR4.out.2.2.1, HR4.out.2.2.2⟩
              case round =>
                obtain ⟨q, bb, hq, rfl, rfl, hO, hsr, hb, hd⟩ := hrel
                clear HR4
                have HR : Hid (OpIn wr wo.heap.size v4 (m + 1) ∧ SRow wr w.heap.size wo.heap.size (some ⟨gl, 0, none⟩) k 3 (opF K T S) ∧ Bx wr wi.heap.size [.int .i64 ki, .int .i64 ti, .string si] ∧ Drew g a n cap X (t + 606 + 2 * i) w wr) := ⟨hO, hsr, hb, hd⟩
                by_cases hql : q < k - (i + 1)
                · exfalso; omega
                · have hq2 : q = k - (i + 1) := by omega
                  subst hq2
                  have hql' : ¬ (((k - (i + 1) : Nat) : Int) < ((k - (i + 1) : Nat) : Int)) := by omega
                  clear hO hsr hd
                  have y1 := hb.cell 1 rfl
                  have yl := hb.2
                  clear hb
                  cases bb
                  · go_wp2_with fail
                    refine (one_any _ _ _ _ _ _ _ _ (by omega) (by omega) HR.out.2.2.2.1).mono ?_
                    rintro r w5 ⟨b5, rfl, hd⟩
                    have HR5 : Hid (OpIn w5 wo.heap.size v4 (m + 1) ∧ SRow w5 w.heap.size wo.heap.size (some ⟨gl, 0, none⟩) k 3 (opF K T S) ∧ Drew g a n cap X (t + 606 + 2 * (i + 1)) w w5) := ⟨HR.out.1.trn hd.2 (by omega), HR.out.2.1.trn hd.2 (Or.inr (by omega)), (HR.out.2.2.2.trans hd).up (by omega)⟩
                    have y5 : w5.cell? ⟨wi.heap.size, 1, none⟩ = some (.int .i64 ti) := (HR.out.2.2.1.trn hd.2 (Or.inr (by omega))).cell 1 rfl
                    have yl5 : wi.heap.size < w5.heap.size := (HR.out.2.2.1.trn hd.2 (Or.inr (by omega))).2
                    have hz5 : wo.heap.size ≤ w5.heap.size := HR5.out.2.1.2
                    clear hd HR y1 yl
                    cases b5
                    · obtain ⟨K', T', S', ho, hS⟩ := HR5.out.1
                      have HO : Hid (w5.ownsRow wo.heap.size 44 3 v4 (m + 1) (cellsL (opF K' T' S') 3 (m + 1)) ∧ ∀ i, i < m + 1 → (S' i).size ≤ 21) := ⟨ho, hS⟩
                      clear ho hS
                      go_wp2_with (first
                        | (at_builtin; refine wpList_append_own_at _ rfl (.tmp 78) (.tmp 82) 32 rfl wo.heap.size 44 i0 (.agg #[.int .i64 0, .int .i64 0, .string ⟨#[]⟩]) 3 32 Try.underlying32 hi0 hz0 hz1 hz2 rfl (by decide) v4 (m + 1) (cellsL (opF K' T' S') 3 (m + 1)) rfl (World.ownsRow.alloc HO.out.1 _) ⟨_, 0, none⟩ 1 1 [.int .i64 3, .int .i64 ti, .string ⟨#[]⟩] rfl rfl (op_at (by first | rfl | simp) _ _) (by intro u hu; simp at hu; rcases hu with rfl | rfl | rfl <;> rfl) (by unfold maxLen; omega) (by omega) (by simp <;> omega) ?_; intro v6 w6 hown hgrow hnil hwhere)
                        | go_in)
                      have HF : Hid (OpIn w6 wo.heap.size v6 (m + 1 + 1) ∧ SRow w6 w.heap.size wo.heap.size (some ⟨gl, 0, none⟩) k 3 (opF K T S) ∧ Drew g a n cap X (t + 606 + 2 * (i + 1)) w w6) := by
                        have hne : ∀ j, v4.ownBlock = some j → wo.heap.size ≤ j ∧ j < w5.heap.size := fun j hj => HO.out.1.lt j hj
                        exact ⟨OpIn.snoc hown HO.out.2 (by decide), (HR5.out.2.1.next (Go.Joins.below_alloc1 _ _)).grew hgrow (fun q hq => Or.inr (hne q hq).1), (HR5.out.2.2.alloc _).grown hgrow hgw (fun j hj => by have := hne j hj; omega)⟩
                      clear hown hgrow hnil hwhere HO HR5
                      go_wp2
                      go_roundw
                      case rel => exact ⟨i + 1, m + 1 + 1, by omega, by omega, by go_num, HF.out.1, HF.out.2.1, HF.out.2.2⟩
                      case measure => simp [intOf]; omega
                    · go_wp2
                      go_roundw
                      case rel => exact ⟨i + 1, m + 1, by omega, by omega, by go_num, HR5.out.1, HR5.out.2.1, HR5.out.2.2⟩
                      case measure => simp [intOf]; omega
                  · go_wp2
                    go_roundw
                    case rel => exact ⟨i + 1, m + 1, by omega, by omega, by go_num, HR.out.1, HR.out.2.1, HR.out.2.2.2.up (by omega)⟩
                    case measure => simp [intOf]; omega
            · try subst h
              have HR4 : Hid (OpIn w4 wo.heap.size v4 (m + 1) ∧ SRow w4 w.heap.size wo.heap.size (some ⟨gl, 0, none⟩) k 3 (opF K T S) ∧ Bx w4 wi.heap.size [.int .i64 ki, .int .i64 ti, .string si] ∧ Drew g a n cap X (t + 606 + 2 * i) w w4) := by
                have hne : ∀ j, u7.ownBlock = some j → wo.heap.size ≤ j ∧ j < wi.heap.size := fun j hj => HO.out.1.lt j hj
                refine ⟨OpIn.snoc hown HO.out.2 hsi, ((HQ.out.2.1.next (Go.Joins.below_alloc1 _ _)).next (Go.Joins.below_alloc1 _ _)).grew hgrow (fun q hq => Or.inr (hne q hq).1), ((hbx.alloc _).grown hgrow hgrow.size (fun e => by have := hne _ e.symm; omega)), ((HQ.out.2.2.alloc _).alloc _).grown hgrow hgw (fun j hj => by have := hne j hj; omega)⟩
              clear hown hgrow hnil hwhere HO hbx c0 c1 c2 HQ
              go_loopw [58, 10] (fun x b wr => ∃ (q : Nat) (bb : Bool), q ≤ k - (i + 1) ∧ x = .int .i64 q ∧ b = .bool bb ∧ OpIn wr wo.heap.size v4 (m + 1) ∧ SRow wr w.heap.size wo.heap.size (some ⟨gl, 0, none⟩) k 3 (opF K T S) ∧ Bx wr wi.heap.size [.int .i64 ki, .int .i64 ti, .string si] ∧ Drew g a n cap X (t + 606 + 2 * i) w wr) (fun x _ _ => k - (i + 1) - (intOf x).toNat)
              case atStart => exact ⟨0, false, Nat.zero_le _, rfl, rfl, HR4.out.1, HR4.out.2.1, HR4.out.2.2.1, HR4.out.2.2.2⟩
              case round =>
                obtain ⟨q, bb, hq, rfl, rfl, hO, hsr, hb, hd⟩ := hrel
                clear HR4
                have HR : Hid (OpIn wr wo.heap.size v4 (m + 1) ∧ SRow wr w.heap.size wo.heap.size (some ⟨gl, 0, none⟩) k 3 (opF K T S) ∧ Bx wr wi.heap.size [.int .i64 ki, .int .i64 ti, .string si] ∧ Drew g a n cap X (t + 606 + 2 * i) w wr) := ⟨hO, hsr, hb, hd⟩
                by_cases hql : q < k - (i + 1)
                · have hql' : (q : Int) < ((k - (i + 1) : Nat) : Int) := by omega
                  rcases hsr.1 with h | ⟨g', e', hB', hC', hgl', hE', hR'⟩
                  · omega
                  cases e'
                  obtain ⟨d0, d1, d2⟩ := op_cells hE' (show i + 1 + q < k by omega)
                  rw [off_at, Nat.zero_add] at d0 d1 d2
                  have y1 := hb.cell 1 rfl
                  have yl := hb.2
                  have hzr : wo.heap.size ≤ wr.heap.size := hsr.2
                  obtain ⟨kq, hkq⟩ : ∃ kq, kq = K (i + 1 + q) := ⟨_, rfl⟩
                  obtain ⟨tq, htq⟩ : ∃ tq, tq = T (i + 1 + q) := ⟨_, rfl⟩
                  obtain ⟨sq, hsq⟩ : ∃ sq, sq = S (i + 1 + q) := ⟨_, rfl⟩
                  rw [← hkq] at d0
                  rw [← htq] at d1
                  rw [← hsq] at d2
                  have HN : Hid (OpIn (wr.alloc (.cells #[.int .i64 kq, .int .i64 tq, .string sq] 44)) wo.heap.size v4 (m + 1) ∧ SRow (wr.alloc (.cells #[.int .i64 kq, .int .i64 tq, .string sq] 44)) w.heap.size wo.heap.size (some ⟨gl, 0, none⟩) k 3 (opF K T S) ∧ Bx (wr.alloc (.cells #[.int .i64 kq, .int .i64 tq, .string sq] 44)) wi.heap.size [.int .i64 ki, .int .i64 ti, .string si] ∧ Drew g a n cap X (t + 606 + 2 * i) w (wr.alloc (.cells #[.int .i64 kq, .int .i64 tq, .string sq] 44))) := ⟨hO.next (Go.Joins.below_alloc1 _ _), hsr.next (Go.Joins.below_alloc1 _ _), hb.alloc _, hd.alloc _⟩
                  clear hO hsr hb hd hE' hR' HR hkq htq hsq
                  cases bb
                  all_goals
                    go_wp2
                    go_roundw
                    (case rel => exact ⟨q + 1, _, by omega, by go_num, rfl, HN.out.1, HN.out.2.1, HN.out.2.2.1, HN.out.2.2.2⟩)
                    (case measure => simp [intOf]; omega)
                · have hq2 : q = k - (i + 1) := by omega
                  subst hq2
                  have hql' : ¬ (((k - (i + 1) : Nat) : Int) < ((k - (i + 1) : Nat) : Int)) := by omega
                  clear hO hsr hd
                  have y1 := hb.cell 1 rfl
                  have yl := hb.2
                  clear hb
                  cases bb
                  · go_wp2_with fail
                    refine (one_any _ _ _ _ _ _ _ _ (by omega) (by omega) HR.out.2.2.2.1).mono ?_
                    rintro r w5 ⟨b5, rfl, hd⟩
                    have HR5 : Hid (OpIn w5 wo.heap.size v4 (m + 1) ∧ SRow w5 w.heap.size wo.heap.size (some ⟨gl, 0, none⟩) k 3 (opF K T S) ∧ Drew g a n cap X (t + 606 + 2 * (i + 1)) w w5) := ⟨HR.out.1.trn hd.2 (by omega), HR.out.2.1.trn hd.2 (Or.inr (by omega)), (HR.out.2.2.2.trans hd).up (by omega)⟩
                    have y5 : w5.cell? ⟨wi.heap.size, 1, none⟩ = some (.int .i64 ti) := (HR.out.2.2.1.trn hd.2 (Or.inr (by omega))).cell 1 rfl
                    have yl5 : wi.heap.size < w5.heap.size := (HR.out.2.2.1.trn hd.2 (Or.inr (by omega))).2
                    have hz5 : wo.heap.size ≤ w5.heap.size := HR5.out.2.1.2
                    clear hd HR y1 yl
                    cases b5
                    · obtain ⟨K', T', S', ho, hS⟩ := HR5.out.1
                      have HO : Hid (w5.ownsRow wo.heap.size 44 3 v4 (m + 1) (cellsL (opF K' T' S') 3 (m + 1)) ∧ ∀ i, i < m + 1 → (S' i).size ≤ 21) := ⟨ho, hS⟩
                      clear ho hS
                      go_wp2_with (first
                        | (at_builtin; refine wpList_append_own_at _ rfl (.tmp 78) (.tmp 82) 32 rfl wo.heap.size 44 i0 (.agg #[.int .i64 0, .int .i64 0, .string ⟨#[]⟩]) 3 32 Try.underlying32 hi0 hz0 hz1 hz2 rfl (by decide) v4 (m + 1) (cellsL (opF K' T' S') 3 (m + 1)) rfl (World.ownsRow.alloc HO.out.1 _) ⟨_, 0, none⟩ 1 1 [.int .i64 3, .int .i64 ti, .string ⟨#[]⟩] rfl rfl (op_at (by first | rfl | simp) _ _) (by intro u hu; simp at hu; rcases hu with rfl | rfl | rfl <;> rfl) (by unfold maxLen; omega) (by omega) (by simp <;> omega) ?_; intro v6 w6 hown hgrow hnil hwhere)
                        | go_in)
                      have HF : Hid (OpIn w6 wo.heap.size v6 (m + 1 + 1) ∧ SRow w6 w.heap.size wo.heap.size (some ⟨gl, 0, none⟩) k 3 (opF K T S) ∧ Drew g a n cap X (t + 606 + 2 * (i + 1)) w w6) := by
                        have hne : ∀ j, v4.ownBlock = some j → wo.heap.size ≤ j ∧ j < w5.heap.size := fun j hj => HO.out.1.lt j hj
                        exact ⟨OpIn.snoc hown HO.out.2 (by decide), (HR5.out.2.1.next (Go.Joins.below_alloc1 _ _)).grew hgrow (fun q hq => Or.inr (hne q hq).1), (HR5.out.2.2.alloc _).grown hgrow hgw (fun j hj => by have := hne j hj; omega)⟩
                      clear hown hgrow hnil hwhere HO HR5
                      go_wp2
                      go_roundw
                      case rel => exact ⟨i + 1, m + 1 + 1, by omega, by omega, by go_num, HF.out.1, HF.out.2.1, HF.out.2.2⟩
                      case measure => simp [intOf]; omega
                    · go_wp2
                      go_roundw
                      case rel => exact ⟨i + 1, m + 1, by omega, by omega, by go_num, HR5.out.1, HR5.out.2.1, HR5.out.2.2⟩
                      case measure => simp [intOf]; omega
                  · go_wp2
                    go_roundw
                    case rel => exact ⟨i + 1, m + 1, by omega, by omega, by go_num, HR.out.1, HR.out.2.1, HR.out.2.2.2.up (by omega)⟩
                    case measure => simp [intOf]; omega
          · have hkn : ¬ (i : Int) < (k : Int) := by omega
            have HQ4 : Hid (OpIn wi wo.heap.size u7 m ∧ Drew g a n cap X (t + 708) w wi) := ⟨HQ.out.1, HQ.out.2.2.up (by omega)⟩
            clear HQ hsr
            go_wp2
            go_loopw [13, 7] (fun x v wr => ∃ (j m : Nat), 1 ≤ j ∧ j ≤ 5 ∧ m ≤ 100 + j ∧ x = .int .i64 j ∧ OpIn wr wo.heap.size v m ∧ Drew g a n cap X (t + 706 + 2 * j) w wr ∧ wo.heap.size ≤ wr.heap.size) (fun x _ _ => 5 - (intOf x).toNat)
            case atStart => exact ⟨1, m, by omega, by omega, by omega, rfl, HQ4.out.1, HQ4.out.2, hzi⟩
            case round =>
              obtain ⟨j, m, hj1, hj5, hm, rfl, hO, hd, hzj⟩ := hrel
              clear HQ4
              obtain ⟨wj, hwj⟩ : ∃ x, x = wr := ⟨wr, rfl⟩
              subst hwj
              obtain ⟨K', T', S', ho, hS⟩ := hO
              obtain ⟨a5, cap5, rfl, hc5, hx5⟩ := SRow.of ho
              have HQ5 : Hid (wj.ownsRow wo.heap.size 44 3 (.slice a5 m cap5) m (cellsL (opF K' T' S') 3 m) ∧ (∀ i, i < m → (S' i).size ≤ 21) ∧ Drew g a n cap X (t + 706 + 2 * j) w wj ∧ Sl wj a5 m 3 (opF K' T' S')) := ⟨ho, hS, hd, hx5.sl⟩
              clear ho hS hd hx5
              by_cases hjm : (j : Int) ≤ mm
              · go_wp2_with fail
                refine (l3Commit_any _ _ _ K' T' S' _ _ (by omega) HQ5.out.2.2.2).mono ?_
                rintro r w6 ⟨rfl, hb6⟩
                obtain ⟨cm, hcm⟩ : ∃ cm, cm = comF K' T' m (j : Int) := ⟨_, rfl⟩
                rw [← hcm]
                have HQ6 : Hid (w6.ownsRow wo.heap.size 44 3 (.slice a5 m cap5) m (cellsL (opF K' T' S') 3 m) ∧ (∀ i, i < m → (S' i).size ≤ 21) ∧ Drew g a n cap X (t + 706 + 2 * j) w w6) := ⟨own_keep HQ5.out.1 hb6, HQ5.out.2.1, HQ5.out.2.2.1.next hb6⟩
                have hz6 : wo.heap.size ≤ w6.heap.size := Nat.le_trans hzj hb6.size
                clear hb6 HQ5 hcm
                by_cases hcz : cm < 0
                · go_wp2_with fail
                  refine (one_any _ _ _ _ _ _ _ _ (by omega) (by omega) HQ6.out.2.2.1).mono ?_
                  rintro r w7 ⟨b7, rfl, hd⟩
                  have HO : Hid (w7.ownsRow wo.heap.size 44 3 (.slice a5 m cap5) m (cellsL (opF K' T' S') 3 m) ∧ (∀ i, i < m → (S' i).size ≤ 21) ∧ Drew g a n cap X (t + 706 + 2 * (j + 1)) w w7) := ⟨own_trn HQ6.out.1 hd.2 (by omega), HQ6.out.2.1, (HQ6.out.2.2.trans hd).up (by omega)⟩
                  have hz7 : wo.heap.size ≤ w7.heap.size := Nat.le_trans hz6 hd.2.2.2.2.1
                  clear hd HQ6
                  cases b7
                  · go_wp2_with (first
                      | (at_builtin; refine wpList_append_own_at _ rfl (.tmp 99) (.tmp 102) 32 rfl wo.heap.size 44 i0 (.agg #[.int .i64 0, .int .i64 0, .string ⟨#[]⟩]) 3 32 Try.underlying32 hi0 hz0 hz1 hz2 rfl (by decide) (.slice a5 m cap5) m (cellsL (opF K' T' S') 3 m) rfl (World.ownsRow.alloc HO.out.1 _) ⟨_, 0, none⟩ 1 1 [.int .i64 3, .int .i64 (j : Int), .string ⟨#[]⟩] rfl rfl (op_at (by first | rfl | simp) _ _) (by intro u hu; simp at hu; rcases hu with rfl | rfl | rfl <;> rfl) (by unfold maxLen; omega) (by omega) (by simp <;> omega) ?_; intro v8 w8 hown hgrow hnil hwhere)
                      | go_in)
                    have HF : Hid (OpIn w8 wo.heap.size v8 (m + 1) ∧ Drew g a n cap X (t + 706 + 2 * (j + 1)) w w8 ∧ wo.heap.size ≤ w8.heap.size) := by
                      have hne : ∀ q, (Value.slice a5 m cap5).ownBlock = some q → wo.heap.size ≤ q := fun q hq => (HO.out.1.lt q hq).1
                      exact ⟨OpIn.snoc hown HO.out.2.1 (by decide), (HO.out.2.2.alloc _).grown hgrow hgw (fun q hq => by have := hne q hq; omega), by have := hgrow.size; rw [World.size_alloc] at this; omega⟩
                    clear hown hgrow hnil hwhere HO
                    go_wp2
                    go_roundw
                    case rel => exact ⟨j + 1, m + 1, by omega, by omega, by omega, by go_num, HF.out.1, HF.out.2.1, HF.out.2.2⟩
                    case measure => simp [intOf]; omega
                  · go_wp2
                    go_roundw
                    case rel => exact ⟨j + 1, m, by omega, by omega, by omega, by go_num, ⟨K', T', S', HO.out.1, HO.out.2.1⟩, HO.out.2.2, hz7⟩
                    case measure => simp [intOf]; omega
                · go_wp2
                  go_roundw
                  case rel => exact ⟨j + 1, m, by omega, by omega, by omega, by go_num, ⟨K', T', S', HQ6.out.1, HQ6.out.2.1⟩, HQ6.out.2.2.up (by omega), hz6⟩
                  case measure => simp [intOf]; omega
              · have HF : Hid (OpsDrew g a n cap X t w (.returned (.slice a5 m cap5)) wj) := ⟨_, m, by omega, rfl, ⟨K', T', S', ⟨HQ5.out.1.1, by
                    rcases HQ5.out.1.2 with h | ⟨b, c, cur, hv, hb, r⟩
                    · exact Or.inl h
                    · exact Or.inr ⟨b, c, cur, hv, by omega, r⟩⟩, HQ5.out.2.1⟩, HQ5.out.2.2.1.up (by omega)⟩
                clear HQ5
                go_wp2
                go_ret
                exact HF.out
end Go.Proofs.Ythbpjmnlgfahmaa
