/- Commits: cloneCommit, spec.l15Own. Written by tools/mkCpC.py. -/
import Derived.Test.YtkpobihpcnoemaaDoorCpC
namespace Go.Proofs.YtkpobihpcnoemaaDoor
open Go.RowKit
set_option linter.unusedVariables false
set_option linter.unusedSimpArgs false

/-- Between the rounds of a clone: the answer's cells, the clone's box, its row. -/
def CcS (w wr : World) (v : Value) (l : List Shd) (dr rc : Int) : Prop :=
  Bx wr (w.heap.size + 1) [.slice none 0 0, .int .i64 0, .int .i64 0] ∧ Bx wr (w.heap.size + 2) [v, .int .i64 dr, .int .i64 rc] ∧ LsX wr (w.heap.size + 3) v l ∧ Below w.heap.size w wr ∧ w.heap.size + 3 ≤ wr.heap.size
theorem CcS.put {w W : World} {v v9 : Value} {l : List Shd} {dr rc : Int} (h : Bx W (w.heap.size + 1) [.slice none 0 0, .int .i64 0, .int .i64 0] ∧ Bx W (w.heap.size + 2) [v, .int .i64 dr, .int .i64 rc] ∧ LsX W (w.heap.size + 3) v9 l ∧ Below w.heap.size w W ∧ w.heap.size + 3 ≤ W.heap.size) : CcS w (W.setCell ⟨w.heap.size + 2, 0, none⟩ v9) v9 l dr rc := by
  obtain ⟨h1, h2, h3, h4, h5⟩ := h
  have ht := turn_set W ⟨w.heap.size + 2, 0, none⟩ v9
  exact ⟨h1.turnS ht (by simp), h2.set (k := 0) (by simp) v9, h3.turn ht (fun k hk => by have hk : k = w.heap.size + 2 := hk; omega), h4.setCell (p := ⟨w.heap.size + 2, 0, none⟩) (by simp) _, by rw [World.size_setCell]; exact h5⟩
theorem CcS.done {w wr W : World} {v : Value} {l : List Shd} {dr rc : Int} (h : CcS w wr v l dr rc) (hW : TurnS (fun k => k = w.heap.size + 1) wr W) : ToX tyCommit (l, dr, rc, ()) w (.returned (.agg #[v, .int .i64 dr, .int .i64 rc])) W := by
  obtain ⟨h1, h2, h3, h4, h5⟩ := h
  have hl := h3.turn hW (fun k hk => by have hk : k = w.heap.size + 1 := hk; omega)
  exact ⟨[v, .int .i64 dr, .int .i64 rc], rfl, ((hl.commit dr rc).lower (by omega)).mono (fun k hk => by simp only [Btw] at hk ⊢; omega), h4.trans (hW.below (fun k hk => by have hk : k = w.heap.size + 1 := hk; omega) h4.size)⟩
theorem own_lt {W : World} {lo : Nat} {v : Value} {x : List Rpl} {S S0 : Nat → Prop} (h : OwnX W lo (.list tyReplica 44) [v] x S) (hS : ∀ k, S k → lo ≤ k ∧ ¬ S0 k) : ∃ E : Nat → Prop, OwnX W lo (.list tyReplica 44) [v] x E ∧ ∀ k, E k → lo ≤ k ∧ k < W.heap.size ∧ ¬ S0 k := by
  obtain ⟨row, hr⟩ := OwnX.flat (e := tyReplica) rfl h
  exact ⟨fun k => v.ownBlock = some k, OwnX.of_flat (e := tyReplica) rfl row (fun k hk => hk), fun k hk => ⟨(hS k (hr k hk)).1, (row.lt k hk).2, (hS k (hr k hk)).2⟩⟩
/-- A row copied, in what stands since W. -/
theorem copied_row {W' : World} {lo : Nat} {v2 : Value} {x : List Rpl} {S : Nat → Prop} (h : OwnX W' lo (.list tyReplica 44) [v2] x S) : ∃ a c, v2 = .slice a x.length c := h.vform

set_option maxRecDepth 100000 in
set_option maxHeartbeats 4000000 in
theorem cloneCommit_n (cs : List Value) (ss : List Shd) (dr rc : Int) (w : World) (hz : szD shCommit (ss, dr, rc, ()) ≤ 1073741824) (h : Lies w shCommit cs (ss, dr, rc, ())) :
    Calls Tryd.prog 47 #[.agg cs.toArray] w (ToX tyCommit (ss, dr, rc, ()) w) := by
  obtain ⟨a1, k1, rfl, h1⟩ := lies_Commit h
  obtain ⟨hn, hr⟩ := cm_sizes hz
  have HL := Hid.intro h1
  have HR := Hid.intro hr
  clear h h1 hr hz
  obtain ⟨j0, hj0, hy0, hy1, hy2⟩ := info_parts inf_Shard
  obtain ⟨i0, hi0, hz0, hz1, hz2⟩ := info_parts inf_Replica
  obtain ⟨w0, hw0⟩ : ∃ x, x = (w.alloc (.cells #[.slice a1 ss.length k1, .int .i64 dr, .int .i64 rc] 29)).alloc (.cells #[.slice none 0 0, .int .i64 0, .int .i64 0] 29) := ⟨_, rfl⟩
  have HB0 : Hid (Bx w0 w.heap.size [.slice a1 ss.length k1, .int .i64 dr, .int .i64 rc] ∧ Bx w0 (w.heap.size + 1) [.slice none 0 0, .int .i64 0, .int .i64 0] ∧ Below w.heap.size w w0 ∧ w0.heap.size = w.heap.size + 2) := ⟨hw0 ▸ (Bx.new w [_, _, _] _).alloc _, hw0 ▸ Bx.newAt (by simp), hw0 ▸ ((Below.refl _ _).alloc (Nat.le_refl _) _).alloc (by simp) _, by rw [hw0]; simp⟩
  have hsz0 : w0.heap.size = w.heap.size + 2 := HB0.out.2.2.2
  obtain ⟨w1, hw1⟩ : ∃ x, x = w0.alloc (.cells #[.slice none 0 0, .int .i64 dr, .int .i64 rc] 29) := ⟨_, rfl⟩
  have HI : Hid (CcS w w1 (.slice none 0 0) (ss.take 0) dr rc ∧ Bx w1 w.heap.size [.slice a1 ss.length k1, .int .i64 dr, .int .i64 rc]) := by
    have hb := Go.Joins.below_alloc1 w0 (.cells #[.slice none 0 0, .int .i64 dr, .int .i64 rc] 29)
    rw [← hw1] at hb
    exact ⟨⟨HB0.out.2.1.next hb, by rw [← hsz0]; exact hw1 ▸ Bx.new w0 [_, _, _] _, LsX.nil, below_next HB0.out.2.2.1 hb, by rw [hw1]; simp; rw [hsz0]; omega⟩, HB0.out.1.next hb⟩
  have s0 := (HB0.out.1).cell 0 rfl; have s1 := (HB0.out.1).cell 1 rfl; have s2 := (HB0.out.1).cell 2 rfl; have sz := (HB0.out.1).2
  go_enter Tryd.func47, Tryd.ntmps47
  go_upto_region 1 with fail
  rw [← hw0]
  clear hw0
  go_upto_region 2 with fail
  (try rw [hsz0])
  rw [← hw1]
  clear hw1 hsz0 s0 s1 s2 sz HB0
  have s0 := (HI.out.2).cell 0 rfl; have s1 := (HI.out.2).cell 1 rfl; have s2 := (HI.out.2).cell 2 rfl; have sz := (HI.out.2).2
  go_wp2
  clear s0 s1 s2 sz
  go_loopw [14] (fun i wr => ∃ (k : Nat) (v : Value), k ≤ ss.length ∧ i = .int .i64 k ∧ CcS w wr v (ss.take k) dr rc) (fun i _ => ss.length - (intOf i).toNat)
  case atStart => exact ⟨0, _, Nat.zero_le _, rfl, HI.out.1⟩
  case round =>
    obtain ⟨k, v, hk, rfl, hS⟩ := hrel
    have HS := Hid.intro hS
    clear hS HI
    by_cases hlt : k < ss.length
    · have hlt' : (k : Int) < (ss.length : Int) := by omega
      have HLE : Hid (Lies wr (.list shShard) [.slice a1 ss.length k1] ss) := HL.out.next HS.out.2.2.2.1
      obtain ⟨xg, xoff, xgo, xgs, xec, xel, xhec, xle⟩ := Lies.elem (HLE.out) hlt
      subst xgo
      rcases xX : ss[k] with ⟨x0, ⟨⟩⟩
      rw [xX] at xle
      have xH : Hid (ss[k] = (x0, ())) := xX
      clear xX
      obtain ⟨xa1, xk1, xev, xq1⟩ := lies_Shard xle
      subst xev
      have xc0 : wr.cell? ⟨xg, xoff + k, none⟩ = some (.slice xa1 x0.length xk1) := (by have := xhec 0 (by simp); simpa [shShard, Sh.c] using this)
      clear xhec xel xle
      have HM : Hid (ss.take (k + 1) = ss.take k ++ [mkS x0]) := Hid.intro (by rw [List.take_succ_eq_append_getElem hlt, xH.out]; rfl)
      have hxn : x0.length ≤ 1073741824 := by have := HR.out _ (List.getElem_mem hlt); rw [xH.out] at this; exact this
      have hbV : 0 + x0.length ≤ maxLen := by unfold maxLen; omega
      have hcV : (0 + x0.length) * 16 ≤ 140737488355328 := by omega
      obtain ⟨W1, hW1⟩ : ∃ x, x = wr.alloc (.cells #[.slice xa1 x0.length xk1] 42) := ⟨_, rfl⟩
      have hb1 : Below wr.heap.size wr W1 := hW1 ▸ Go.Joins.below_alloc1 _ _
      have hb2 := below_next hb1 (below_drew W1)
      obtain ⟨M, hM⟩ : ∃ M, M = ss.take k := ⟨_, rfl⟩
      have hMl : M.length ≤ 1073741824 := by rw [hM, List.length_take]; omega
      have HS : Hid (CcS w wr v M dr rc) := hM ▸ HS
      rw [← hM] at HM
      clear hM
      obtain ⟨va, vc, hvf⟩ := HS.out.2.2.1.form
      subst hvf
      obtain ⟨xs, S, B, hR⟩ := HS.out.2.2.1.open
      have hNS : ¬ S wr.heap.size := fun q => Nat.lt_irrefl _ (hR.z _ q).2
      replace hR := hR.next hb2
      obtain ⟨b, hbE⟩ : ∃ b, b = wr.heap.size := ⟨_, rfl⟩
      have HW : Hid (Bx W1.drew b [.slice xa1 x0.length xk1] ∧ Bx W1.drew (w.heap.size + 1) [.slice none 0 0, .int .i64 0, .int .i64 0] ∧ Bx W1.drew (w.heap.size + 2) [.slice va M.length vc, .int .i64 dr, .int .i64 rc] ∧ LsR W1.drew (w.heap.size + 3) (.slice va M.length vc) M xs S B ∧ Below w.heap.size w W1.drew ∧ w.heap.size + 3 ≤ W1.drew.heap.size ∧ Lies W1.drew (.list shReplica) [.slice xa1 x0.length xk1] x0 ∧ w.heap.size + 3 ≤ b ∧ ¬ S b) := ⟨hbE ▸ (hW1 ▸ Bx.new wr [_] _ : Bx W1 wr.heap.size [.slice xa1 x0.length xk1]).next (below_drew _), HS.out.1.next hb2, HS.out.2.1.next hb2, hR, below_next HS.out.2.2.2.1 hb2, Nat.le_trans HS.out.2.2.2.2 hb2.size, xq1.next hb2, by rw [hbE]; exact HS.out.2.2.2.2, by rw [hbE]; exact hNS⟩
      clear HLE xq1 hb1 hb2 HS hR hNS
      go_upto_region 5 with fail
      rw [← hW1, ← hbE]
      clear hW1 hbE xc0
      refine wp_region_noPanic ?_
      refine wp_region_held_drew (S := fun W => Bx W b [.slice xa1 x0.length xk1]) (by kernel_rfl) HW.out.1 (fun hHeld => ?_)
      obtain ⟨W, hWE⟩ : ∃ x, x = W1.drew := ⟨_, rfl⟩
      rw [← hWE] at HW hHeld ⊢
      clear hWE
      refine take_v (v := ?_) 0 ⟨some 18, Op.fieldAddr 29 (Operand.tmp 3) 0, _, _, _, none⟩ rfl (fun _ _ _ h => h) ?_ hHeld ?_
      rotate_left
      · (intro W _; go_simp <;> (try with_reducible rfl))
      refine take_v (v := ?_) 2 ⟨some 20, Op.fieldAddr 42 (Operand.tmp 5) 0, _, _, _, none⟩ rfl (fun _ _ _ h => h) ?_ hHeld ?_
      rotate_left
      · (intro W _; go_simp <;> (try with_reducible rfl))
      refine take_v (v := ?_) 3 ⟨some 21, Op.load 40 (Operand.tmp 20), _, _, _, none⟩ rfl (fun _ _ _ h => h) ?_ hHeld ?_
      rotate_left
      · (intro W hSW; (have s0 := hSW.cell 0 rfl; have sz := hSW.2); go_simp <;> (try with_reducible rfl))
      refine ready_two 1 4 ⟨some 19, Op.load 27 (Operand.tmp 18), _, _, _, none⟩ ⟨some 22, Op.call { callee := Callee.builtin Builtin.append, args := #[Operand.const (Value.slice none 0 0), Operand.tmp 21], argTypes := #[40, 40] }, _, _, _, none⟩ (by kernel_rfl) rfl rfl (by kernel_rfl) (by kernel_rfl) (fun KC hK => ?_) (fun KC hK => ?_)
      ·
        have t0 := HW.out.2.2.1.cell 0 rfl
        have t1 := HW.out.2.2.1.cell 1 rfl
        have t2 := HW.out.2.2.1.cell 2 rfl
        have tz := HW.out.2.2.1.2
        go_wp2_with fail
        clear t0 t1 t2 tz
        refine hK.out _ _ HW.out.1 (fun hHeld => ?_)
        clear hK KC
        refine ready_call 4 ⟨some 22, Op.call { callee := Callee.builtin Builtin.append, args := #[Operand.const (Value.slice none 0 0), Operand.tmp 21], argTypes := #[40, 40] }, _, _, _, none⟩ (by kernel_rfl) rfl (by kernel_rfl) (fun KC hK => ?_)
        have hzW := HW.out.2.2.2.2.2.1
        refine wp_appx (.const (.slice none 0 0)) (.tmp 21) 40 44 (by rfl) i0 (.agg #[.bool false, .int .i64 0]) 16 (w.heap.size + 3) tyReplica rfl Tryd.underlying40 hi0 hz0 hz1 hz2 rfl (by decide) (.slice none 0 0) [] x0 (fun _ => False) (by rfl) OwnX.nil' xa1 xk1 (by rfl) HW.out.2.2.2.2.2.2.1 hbV hcV hzW ?_
        intro v2 W3 hO3 hg3 hwh3
        have hb : Below _ _ W3 := ⟨hg3.os, hg3.tape, hg3.output, hg3.size, fun k hk => hg3.block k hk (fun q => by cases q)⟩
        have hO3 : OwnX W3 (w.heap.size + 3) (.list tyReplica 44) [v2] x0 (fun k => False ∨ k = W.heap.size) := hO3
        obtain ⟨ag, gc, hvf⟩ := copied_row hO3
        subst hvf
        obtain ⟨g, hg⟩ : ∃ g, g = W.heap.size := ⟨_, rfl⟩
        have HG : Hid (∃ E : Nat → Prop, OwnX W3 (w.heap.size + 3) (.list tyReplica 44) [.slice ag x0.length gc] x0 E ∧ ∀ k, E k → w.heap.size + 3 ≤ k ∧ k < W3.heap.size ∧ ¬ S k) := Hid.intro (own_lt hO3 (fun k hk => by rcases hk with q | q; exact q.elim; subst q; exact ⟨HW.out.2.2.2.2.2.1, fun q => by have := (HW.out.2.2.2.1.z _ q).2; omega⟩))
        have HW := (show Hid (Bx W3 b [.slice xa1 x0.length xk1] ∧ Bx W3 (w.heap.size + 1) [.slice none 0 0, .int .i64 0, .int .i64 0] ∧ Bx W3 (w.heap.size + 2) [.slice va M.length vc, .int .i64 dr, .int .i64 rc] ∧ LsR W3 (w.heap.size + 3) (.slice va M.length vc) M xs S B ∧ Below w.heap.size w W3 ∧ w.heap.size + 3 ≤ W3.heap.size ∧ Lies W3 (.list shReplica) [.slice xa1 x0.length xk1] x0 ∧ w.heap.size + 3 ≤ b ∧ ¬ S b) from ⟨HW.out.1.next hb, HW.out.2.1.next hb, HW.out.2.2.1.next hb, HW.out.2.2.2.1.next hb, below_next HW.out.2.2.2.2.1 hb, Nat.le_trans HW.out.2.2.2.2.2.1 hb.size, HW.out.2.2.2.2.2.2.1.next hb, HW.out.2.2.2.2.2.2.2⟩)
        clear hb hO3 hg3 hwh3 hzW hg
        refine hK.out _ _ HW.out.1 (fun hHeld => ?_)
        clear hK KC
        refine take_v (v := ?_) 5 ⟨some 23, Op.build 42 #[(0, Operand.tmp 22)], _, _, _, none⟩ rfl (fun _ _ _ h => h) ?_ hHeld ?_
        rotate_left
        · (intro W _; go_simp <;> (try with_reducible rfl))
        refine ready_call 6 ⟨some 24, Op.buildSlice 27 1 #[(0, Operand.tmp 23)], _, _, _, none⟩ (by kernel_rfl) rfl (by kernel_rfl) (fun KC hK => ?_)
        go_wp2_with fail
        have hb := Go.Joins.below_alloc1 W3 (.cells #[.slice ag x0.length gc] 42)
        obtain ⟨W4, hW4⟩ : ∃ x, x = W3.alloc (.cells #[.slice ag x0.length gc] 42) := ⟨_, rfl⟩
        have HNW := Hid.intro (cells_new W3 [.slice ag x0.length gc] 42)
        rw [← hW4] at hb HNW ⊢
        obtain ⟨q, hq⟩ : ∃ q, q = W3.heap.size := ⟨_, rfl⟩
        rw [← hq] at HNW ⊢
        have HG := (show Hid (∃ E : Nat → Prop, OwnX W4 (w.heap.size + 3) (.list tyReplica 44) [.slice ag x0.length gc] x0 E ∧ ∀ k, E k → w.heap.size + 3 ≤ k ∧ k < W4.heap.size ∧ ¬ S k) from Hid.intro (by obtain ⟨E, e1, e2⟩ := HG.out; exact ⟨E, e1.next hb, fun k hk => ⟨(e2 k hk).1, Nat.lt_of_lt_of_le (e2 k hk).2.1 hb.size, (e2 k hk).2.2⟩⟩))
        have HW := (show Hid (Bx W4 b [.slice xa1 x0.length xk1] ∧ Bx W4 (w.heap.size + 1) [.slice none 0 0, .int .i64 0, .int .i64 0] ∧ Bx W4 (w.heap.size + 2) [.slice va M.length vc, .int .i64 dr, .int .i64 rc] ∧ LsR W4 (w.heap.size + 3) (.slice va M.length vc) M xs S B ∧ Below w.heap.size w W4 ∧ w.heap.size + 3 ≤ W4.heap.size ∧ Lies W4 (.list shReplica) [.slice xa1 x0.length xk1] x0 ∧ w.heap.size + 3 ≤ b ∧ ¬ S b) from ⟨HW.out.1.next hb, HW.out.2.1.next hb, HW.out.2.2.1.next hb, HW.out.2.2.2.1.next hb, below_next HW.out.2.2.2.2.1 hb, Nat.le_trans HW.out.2.2.2.2.2.1 hb.size, HW.out.2.2.2.2.2.2.1.next hb, HW.out.2.2.2.2.2.2.2⟩)
        clear hb hW4 hq
        refine hK.out _ _ HW.out.1 (fun hHeld => ?_)
        clear hK KC
        refine ready_call 7 ⟨some 25, Op.call { callee := Callee.builtin Builtin.append, args := #[Operand.tmp 19, Operand.tmp 24], argTypes := #[27, 27] }, _, _, _, none⟩ (by kernel_rfl) rfl (by kernel_rfl) (fun KC hK => ?_)
        have hsz := HW.out.2.2.2.2.2.1
        refine wp_append_at W4 (.tmp 19) (.tmp 24) 27 (by rfl) (w.heap.size + 3) 42 j0 (.agg #[.slice none 0 0]) 1 24 Tryd.underlying27 hj0 hy0 hy1 hy2 rfl (by decide) (.slice va M.length vc) M.length xs (by rfl) HW.out.2.2.2.1.row ⟨q, 0, none⟩ 1 1 [.slice ag x0.length gc] (by rfl) rfl HNW.out (by intro u hu; simp at hu; subst hu; rfl) (by unfold maxLen; omega) (by omega) hsz ?_
        intro v9 w9 hown9 hgrow9 hwh9
        have hX : LsX w9 (w.heap.size + 3) v9 (ss.take (k + 1)) := by obtain ⟨E, e1, e2⟩ := HG.out; rw [HM.out]; exact HW.out.2.2.2.1.app e1 e2 hown9 hgrow9 hwh9
        obtain ⟨M2, hM2⟩ : ∃ M2, M2 = ss.take (k + 1) := ⟨_, rfl⟩
        rw [← hM2] at hX
        have HM2 := Hid.intro hM2
        clear hM2
        have hlo : ∀ k, (Value.slice va M.length vc).ownBlock = some k → w.heap.size + 3 ≤ k := fun k hk => (HW.out.2.2.2.1.row.lt k hk).1
        have HF : Hid (Bx w9 b [.slice xa1 x0.length xk1] ∧ Bx w9 (w.heap.size + 1) [.slice none 0 0, .int .i64 0, .int .i64 0] ∧ Bx w9 (w.heap.size + 2) [.slice va M.length vc, .int .i64 dr, .int .i64 rc] ∧ LsX w9 (w.heap.size + 3) v9 M2 ∧ Below w.heap.size w w9 ∧ w.heap.size + 3 ≤ w9.heap.size) := ⟨HW.out.1.grow hgrow9 (fun e => HW.out.2.2.2.2.2.2.2.2 (HW.out.2.2.2.1.s b e.symm)), HW.out.2.1.grow hgrow9 (fun e => by have := hlo _ e.symm; omega), HW.out.2.2.1.grow hgrow9 (fun e => by have := hlo _ e.symm; omega), hX, HW.out.2.2.2.2.1.grown hgrow9 HW.out.2.2.2.2.1.size (fun k hk => by have := hlo k hk; omega), Nat.le_trans HW.out.2.2.2.2.2.1 hgrow9.size⟩
        have HBN := Hid.intro HW.out.2.2.2.2.2.2.2.1
        obtain ⟨a9, c9, hv9⟩ := hX.form
        subst hv9
        clear hown9 hgrow9 hwh9 hX hlo hsz
        refine hK.out _ _ HF.out.1 (fun hHeld => ?_)
        clear hK KC
        refine take_v (v := ?_) 8 ⟨some 26, Op.fieldAddr 29 (Operand.tmp 3) 0, _, _, _, none⟩ rfl (fun _ _ _ h => h) ?_ hHeld ?_
        rotate_left
        · (intro W _; go_simp <;> (try with_reducible rfl))
        refine ready_call 9 ⟨none, Op.store 27 (Operand.tmp 26) (Operand.tmp 25), _, _, _, none⟩ (by kernel_rfl) rfl (by kernel_rfl) (fun KC hK => ?_)
        have r0 := HF.out.2.2.1.cell 0 rfl
        have r1 := HF.out.2.2.1.cell 1 rfl
        have r2 := HF.out.2.2.1.cell 2 rfl
        have rz := HF.out.2.2.1.2
        have g0 := HF.out.2.2.1.frz 0 (by simp)
        go_wp2_with fail
        clear r0 r1 r2 rz g0
        refine hK.out _ _ (HF.out.1.other (by have := HBN.out; simp; omega)) (fun hHeld => ?_)
        clear hK KC
        refine wpAnyH_done (by kernel_rfl) ?_ _
        refine NoPanic.normal ?_
        clear hHeld
        go_wp2
        go_roundw
        case rel => exact ⟨k + 1, _, by omega, by go_num, by rw [← HM2.out]; exact CcS.put HF.out.2⟩
        case measure => simp [intOf]; omega
      ·
        have hzW := HW.out.2.2.2.2.2.1
        refine wp_appx (.const (.slice none 0 0)) (.tmp 21) 40 44 (by rfl) i0 (.agg #[.bool false, .int .i64 0]) 16 (w.heap.size + 3) tyReplica rfl Tryd.underlying40 hi0 hz0 hz1 hz2 rfl (by decide) (.slice none 0 0) [] x0 (fun _ => False) (by rfl) OwnX.nil' xa1 xk1 (by rfl) HW.out.2.2.2.2.2.2.1 hbV hcV hzW ?_
        intro v2 W3 hO3 hg3 hwh3
        have hb : Below _ _ W3 := ⟨hg3.os, hg3.tape, hg3.output, hg3.size, fun k hk => hg3.block k hk (fun q => by cases q)⟩
        have hO3 : OwnX W3 (w.heap.size + 3) (.list tyReplica 44) [v2] x0 (fun k => False ∨ k = W.heap.size) := hO3
        obtain ⟨ag, gc, hvf⟩ := copied_row hO3
        subst hvf
        obtain ⟨g, hg⟩ : ∃ g, g = W.heap.size := ⟨_, rfl⟩
        have HG : Hid (∃ E : Nat → Prop, OwnX W3 (w.heap.size + 3) (.list tyReplica 44) [.slice ag x0.length gc] x0 E ∧ ∀ k, E k → w.heap.size + 3 ≤ k ∧ k < W3.heap.size ∧ ¬ S k) := Hid.intro (own_lt hO3 (fun k hk => by rcases hk with q | q; exact q.elim; subst q; exact ⟨HW.out.2.2.2.2.2.1, fun q => by have := (HW.out.2.2.2.1.z _ q).2; omega⟩))
        have HW := (show Hid (Bx W3 b [.slice xa1 x0.length xk1] ∧ Bx W3 (w.heap.size + 1) [.slice none 0 0, .int .i64 0, .int .i64 0] ∧ Bx W3 (w.heap.size + 2) [.slice va M.length vc, .int .i64 dr, .int .i64 rc] ∧ LsR W3 (w.heap.size + 3) (.slice va M.length vc) M xs S B ∧ Below w.heap.size w W3 ∧ w.heap.size + 3 ≤ W3.heap.size ∧ Lies W3 (.list shReplica) [.slice xa1 x0.length xk1] x0 ∧ w.heap.size + 3 ≤ b ∧ ¬ S b) from ⟨HW.out.1.next hb, HW.out.2.1.next hb, HW.out.2.2.1.next hb, HW.out.2.2.2.1.next hb, below_next HW.out.2.2.2.2.1 hb, Nat.le_trans HW.out.2.2.2.2.2.1 hb.size, HW.out.2.2.2.2.2.2.1.next hb, HW.out.2.2.2.2.2.2.2⟩)
        clear hb hO3 hg3 hwh3 hzW hg
        refine hK.out _ _ HW.out.1 (fun hHeld => ?_)
        clear hK KC
        refine take_v (v := ?_) 5 ⟨some 23, Op.build 42 #[(0, Operand.tmp 22)], _, _, _, none⟩ rfl (fun _ _ _ h => h) ?_ hHeld ?_
        rotate_left
        · (intro W _; go_simp <;> (try with_reducible rfl))
        refine ready_two 1 6 ⟨some 19, Op.load 27 (Operand.tmp 18), _, _, _, none⟩ ⟨some 24, Op.buildSlice 27 1 #[(0, Operand.tmp 23)], _, _, _, none⟩ (by kernel_rfl) rfl rfl (by kernel_rfl) (by kernel_rfl) (fun KC hK => ?_) (fun KC hK => ?_)
        ·
          have t0 := HW.out.2.2.1.cell 0 rfl
          have t1 := HW.out.2.2.1.cell 1 rfl
          have t2 := HW.out.2.2.1.cell 2 rfl
          have tz := HW.out.2.2.1.2
          go_wp2_with fail
          clear t0 t1 t2 tz
          refine hK.out _ _ HW.out.1 (fun hHeld => ?_)
          clear hK KC
          refine ready_call 6 ⟨some 24, Op.buildSlice 27 1 #[(0, Operand.tmp 23)], _, _, _, none⟩ (by kernel_rfl) rfl (by kernel_rfl) (fun KC hK => ?_)
          go_wp2_with fail
          have hb := Go.Joins.below_alloc1 W3 (.cells #[.slice ag x0.length gc] 42)
          obtain ⟨W4, hW4⟩ : ∃ x, x = W3.alloc (.cells #[.slice ag x0.length gc] 42) := ⟨_, rfl⟩
          have HNW := Hid.intro (cells_new W3 [.slice ag x0.length gc] 42)
          rw [← hW4] at hb HNW ⊢
          obtain ⟨q, hq⟩ : ∃ q, q = W3.heap.size := ⟨_, rfl⟩
          rw [← hq] at HNW ⊢
          have HG := (show Hid (∃ E : Nat → Prop, OwnX W4 (w.heap.size + 3) (.list tyReplica 44) [.slice ag x0.length gc] x0 E ∧ ∀ k, E k → w.heap.size + 3 ≤ k ∧ k < W4.heap.size ∧ ¬ S k) from Hid.intro (by obtain ⟨E, e1, e2⟩ := HG.out; exact ⟨E, e1.next hb, fun k hk => ⟨(e2 k hk).1, Nat.lt_of_lt_of_le (e2 k hk).2.1 hb.size, (e2 k hk).2.2⟩⟩))
          have HW := (show Hid (Bx W4 b [.slice xa1 x0.length xk1] ∧ Bx W4 (w.heap.size + 1) [.slice none 0 0, .int .i64 0, .int .i64 0] ∧ Bx W4 (w.heap.size + 2) [.slice va M.length vc, .int .i64 dr, .int .i64 rc] ∧ LsR W4 (w.heap.size + 3) (.slice va M.length vc) M xs S B ∧ Below w.heap.size w W4 ∧ w.heap.size + 3 ≤ W4.heap.size ∧ Lies W4 (.list shReplica) [.slice xa1 x0.length xk1] x0 ∧ w.heap.size + 3 ≤ b ∧ ¬ S b) from ⟨HW.out.1.next hb, HW.out.2.1.next hb, HW.out.2.2.1.next hb, HW.out.2.2.2.1.next hb, below_next HW.out.2.2.2.2.1 hb, Nat.le_trans HW.out.2.2.2.2.2.1 hb.size, HW.out.2.2.2.2.2.2.1.next hb, HW.out.2.2.2.2.2.2.2⟩)
          clear hb hW4 hq
          refine hK.out _ _ HW.out.1 (fun hHeld => ?_)
          clear hK KC
          refine ready_call 7 ⟨some 25, Op.call { callee := Callee.builtin Builtin.append, args := #[Operand.tmp 19, Operand.tmp 24], argTypes := #[27, 27] }, _, _, _, none⟩ (by kernel_rfl) rfl (by kernel_rfl) (fun KC hK => ?_)
          have hsz := HW.out.2.2.2.2.2.1
          refine wp_append_at W4 (.tmp 19) (.tmp 24) 27 (by rfl) (w.heap.size + 3) 42 j0 (.agg #[.slice none 0 0]) 1 24 Tryd.underlying27 hj0 hy0 hy1 hy2 rfl (by decide) (.slice va M.length vc) M.length xs (by rfl) HW.out.2.2.2.1.row ⟨q, 0, none⟩ 1 1 [.slice ag x0.length gc] (by rfl) rfl HNW.out (by intro u hu; simp at hu; subst hu; rfl) (by unfold maxLen; omega) (by omega) hsz ?_
          intro v9 w9 hown9 hgrow9 hwh9
          have hX : LsX w9 (w.heap.size + 3) v9 (ss.take (k + 1)) := by obtain ⟨E, e1, e2⟩ := HG.out; rw [HM.out]; exact HW.out.2.2.2.1.app e1 e2 hown9 hgrow9 hwh9
          obtain ⟨M2, hM2⟩ : ∃ M2, M2 = ss.take (k + 1) := ⟨_, rfl⟩
          rw [← hM2] at hX
          have HM2 := Hid.intro hM2
          clear hM2
          have hlo : ∀ k, (Value.slice va M.length vc).ownBlock = some k → w.heap.size + 3 ≤ k := fun k hk => (HW.out.2.2.2.1.row.lt k hk).1
          have HF : Hid (Bx w9 b [.slice xa1 x0.length xk1] ∧ Bx w9 (w.heap.size + 1) [.slice none 0 0, .int .i64 0, .int .i64 0] ∧ Bx w9 (w.heap.size + 2) [.slice va M.length vc, .int .i64 dr, .int .i64 rc] ∧ LsX w9 (w.heap.size + 3) v9 M2 ∧ Below w.heap.size w w9 ∧ w.heap.size + 3 ≤ w9.heap.size) := ⟨HW.out.1.grow hgrow9 (fun e => HW.out.2.2.2.2.2.2.2.2 (HW.out.2.2.2.1.s b e.symm)), HW.out.2.1.grow hgrow9 (fun e => by have := hlo _ e.symm; omega), HW.out.2.2.1.grow hgrow9 (fun e => by have := hlo _ e.symm; omega), hX, HW.out.2.2.2.2.1.grown hgrow9 HW.out.2.2.2.2.1.size (fun k hk => by have := hlo k hk; omega), Nat.le_trans HW.out.2.2.2.2.2.1 hgrow9.size⟩
          have HBN := Hid.intro HW.out.2.2.2.2.2.2.2.1
          obtain ⟨a9, c9, hv9⟩ := hX.form
          subst hv9
          clear hown9 hgrow9 hwh9 hX hlo hsz
          refine hK.out _ _ HF.out.1 (fun hHeld => ?_)
          clear hK KC
          refine take_v (v := ?_) 8 ⟨some 26, Op.fieldAddr 29 (Operand.tmp 3) 0, _, _, _, none⟩ rfl (fun _ _ _ h => h) ?_ hHeld ?_
          rotate_left
          · (intro W _; go_simp <;> (try with_reducible rfl))
          refine ready_call 9 ⟨none, Op.store 27 (Operand.tmp 26) (Operand.tmp 25), _, _, _, none⟩ (by kernel_rfl) rfl (by kernel_rfl) (fun KC hK => ?_)
          have r0 := HF.out.2.2.1.cell 0 rfl
          have r1 := HF.out.2.2.1.cell 1 rfl
          have r2 := HF.out.2.2.1.cell 2 rfl
          have rz := HF.out.2.2.1.2
          have g0 := HF.out.2.2.1.frz 0 (by simp)
          go_wp2_with fail
          clear r0 r1 r2 rz g0
          refine hK.out _ _ (HF.out.1.other (by have := HBN.out; simp; omega)) (fun hHeld => ?_)
          clear hK KC
          refine wpAnyH_done (by kernel_rfl) ?_ _
          refine NoPanic.normal ?_
          clear hHeld
          go_wp2
          go_roundw
          case rel => exact ⟨k + 1, _, by omega, by go_num, by rw [← HM2.out]; exact CcS.put HF.out.2⟩
          case measure => simp [intOf]; omega
        ·
          go_wp2_with fail
          have hb := Go.Joins.below_alloc1 W3 (.cells #[.slice ag x0.length gc] 42)
          obtain ⟨W4, hW4⟩ : ∃ x, x = W3.alloc (.cells #[.slice ag x0.length gc] 42) := ⟨_, rfl⟩
          have HNW := Hid.intro (cells_new W3 [.slice ag x0.length gc] 42)
          rw [← hW4] at hb HNW ⊢
          obtain ⟨q, hq⟩ : ∃ q, q = W3.heap.size := ⟨_, rfl⟩
          rw [← hq] at HNW ⊢
          have HG := (show Hid (∃ E : Nat → Prop, OwnX W4 (w.heap.size + 3) (.list tyReplica 44) [.slice ag x0.length gc] x0 E ∧ ∀ k, E k → w.heap.size + 3 ≤ k ∧ k < W4.heap.size ∧ ¬ S k) from Hid.intro (by obtain ⟨E, e1, e2⟩ := HG.out; exact ⟨E, e1.next hb, fun k hk => ⟨(e2 k hk).1, Nat.lt_of_lt_of_le (e2 k hk).2.1 hb.size, (e2 k hk).2.2⟩⟩))
          have HW := (show Hid (Bx W4 b [.slice xa1 x0.length xk1] ∧ Bx W4 (w.heap.size + 1) [.slice none 0 0, .int .i64 0, .int .i64 0] ∧ Bx W4 (w.heap.size + 2) [.slice va M.length vc, .int .i64 dr, .int .i64 rc] ∧ LsR W4 (w.heap.size + 3) (.slice va M.length vc) M xs S B ∧ Below w.heap.size w W4 ∧ w.heap.size + 3 ≤ W4.heap.size ∧ Lies W4 (.list shReplica) [.slice xa1 x0.length xk1] x0 ∧ w.heap.size + 3 ≤ b ∧ ¬ S b) from ⟨HW.out.1.next hb, HW.out.2.1.next hb, HW.out.2.2.1.next hb, HW.out.2.2.2.1.next hb, below_next HW.out.2.2.2.2.1 hb, Nat.le_trans HW.out.2.2.2.2.2.1 hb.size, HW.out.2.2.2.2.2.2.1.next hb, HW.out.2.2.2.2.2.2.2⟩)
          clear hb hW4 hq
          refine hK.out _ _ HW.out.1 (fun hHeld => ?_)
          clear hK KC
          refine ready_call 1 ⟨some 19, Op.load 27 (Operand.tmp 18), _, _, _, none⟩ (by kernel_rfl) rfl (by kernel_rfl) (fun KC hK => ?_)
          have t0 := HW.out.2.2.1.cell 0 rfl
          have t1 := HW.out.2.2.1.cell 1 rfl
          have t2 := HW.out.2.2.1.cell 2 rfl
          have tz := HW.out.2.2.1.2
          go_wp2_with fail
          clear t0 t1 t2 tz
          refine hK.out _ _ HW.out.1 (fun hHeld => ?_)
          clear hK KC
          refine ready_call 7 ⟨some 25, Op.call { callee := Callee.builtin Builtin.append, args := #[Operand.tmp 19, Operand.tmp 24], argTypes := #[27, 27] }, _, _, _, none⟩ (by kernel_rfl) rfl (by kernel_rfl) (fun KC hK => ?_)
          have hsz := HW.out.2.2.2.2.2.1
          refine wp_append_at W4 (.tmp 19) (.tmp 24) 27 (by rfl) (w.heap.size + 3) 42 j0 (.agg #[.slice none 0 0]) 1 24 Tryd.underlying27 hj0 hy0 hy1 hy2 rfl (by decide) (.slice va M.length vc) M.length xs (by rfl) HW.out.2.2.2.1.row ⟨q, 0, none⟩ 1 1 [.slice ag x0.length gc] (by rfl) rfl HNW.out (by intro u hu; simp at hu; subst hu; rfl) (by unfold maxLen; omega) (by omega) hsz ?_
          intro v9 w9 hown9 hgrow9 hwh9
          have hX : LsX w9 (w.heap.size + 3) v9 (ss.take (k + 1)) := by obtain ⟨E, e1, e2⟩ := HG.out; rw [HM.out]; exact HW.out.2.2.2.1.app e1 e2 hown9 hgrow9 hwh9
          obtain ⟨M2, hM2⟩ : ∃ M2, M2 = ss.take (k + 1) := ⟨_, rfl⟩
          rw [← hM2] at hX
          have HM2 := Hid.intro hM2
          clear hM2
          have hlo : ∀ k, (Value.slice va M.length vc).ownBlock = some k → w.heap.size + 3 ≤ k := fun k hk => (HW.out.2.2.2.1.row.lt k hk).1
          have HF : Hid (Bx w9 b [.slice xa1 x0.length xk1] ∧ Bx w9 (w.heap.size + 1) [.slice none 0 0, .int .i64 0, .int .i64 0] ∧ Bx w9 (w.heap.size + 2) [.slice va M.length vc, .int .i64 dr, .int .i64 rc] ∧ LsX w9 (w.heap.size + 3) v9 M2 ∧ Below w.heap.size w w9 ∧ w.heap.size + 3 ≤ w9.heap.size) := ⟨HW.out.1.grow hgrow9 (fun e => HW.out.2.2.2.2.2.2.2.2 (HW.out.2.2.2.1.s b e.symm)), HW.out.2.1.grow hgrow9 (fun e => by have := hlo _ e.symm; omega), HW.out.2.2.1.grow hgrow9 (fun e => by have := hlo _ e.symm; omega), hX, HW.out.2.2.2.2.1.grown hgrow9 HW.out.2.2.2.2.1.size (fun k hk => by have := hlo k hk; omega), Nat.le_trans HW.out.2.2.2.2.2.1 hgrow9.size⟩
          have HBN := Hid.intro HW.out.2.2.2.2.2.2.2.1
          obtain ⟨a9, c9, hv9⟩ := hX.form
          subst hv9
          clear hown9 hgrow9 hwh9 hX hlo hsz
          refine hK.out _ _ HF.out.1 (fun hHeld => ?_)
          clear hK KC
          refine take_v (v := ?_) 8 ⟨some 26, Op.fieldAddr 29 (Operand.tmp 3) 0, _, _, _, none⟩ rfl (fun _ _ _ h => h) ?_ hHeld ?_
          rotate_left
          · (intro W _; go_simp <;> (try with_reducible rfl))
          refine ready_call 9 ⟨none, Op.store 27 (Operand.tmp 26) (Operand.tmp 25), _, _, _, none⟩ (by kernel_rfl) rfl (by kernel_rfl) (fun KC hK => ?_)
          have r0 := HF.out.2.2.1.cell 0 rfl
          have r1 := HF.out.2.2.1.cell 1 rfl
          have r2 := HF.out.2.2.1.cell 2 rfl
          have rz := HF.out.2.2.1.2
          have g0 := HF.out.2.2.1.frz 0 (by simp)
          go_wp2_with fail
          clear r0 r1 r2 rz g0
          refine hK.out _ _ (HF.out.1.other (by have := HBN.out; simp; omega)) (fun hHeld => ?_)
          clear hK KC
          refine wpAnyH_done (by kernel_rfl) ?_ _
          refine NoPanic.normal ?_
          clear hHeld
          go_wp2
          go_roundw
          case rel => exact ⟨k + 1, _, by omega, by go_num, by rw [← HM2.out]; exact CcS.put HF.out.2⟩
          case measure => simp [intOf]; omega
    · have hkn : k = ss.length := by omega
      have HS : Hid (CcS w wr v ss dr rc) := Hid.intro (by have := HS.out; rwa [hkn, List.take_length] at this)
      clear hkn
      obtain ⟨va, vc, hvf⟩ := HS.out.2.2.1.form
      subst hvf
      have r0 := HS.out.2.1.cell 0 rfl
      have r1 := HS.out.2.1.cell 1 rfl
      have r2 := HS.out.2.1.cell 2 rfl
      have rz := HS.out.2.1.2
      have z0 := HS.out.1.cell 0 rfl
      have z1 := HS.out.1.cell 1 rfl
      have z2 := HS.out.1.cell 2 rfl
      have f0 := HS.out.1.frz 0 (by simp)
      have f1 := HS.out.1.frz 1 (by simp)
      have f2 := HS.out.1.frz 2 (by simp)
      have zz := HS.out.1.2
      go_wp2
      exact bodyPost_ret (v := .agg #[.slice va ss.length vc, .int .i64 dr, .int .i64 rc]) (by simp [results, Tryd.results47, go_sem, *]) rfl (HS.out.done (set3 _ _ _ _ _))
end Go.Proofs.YtkpobihpcnoemaaDoor
