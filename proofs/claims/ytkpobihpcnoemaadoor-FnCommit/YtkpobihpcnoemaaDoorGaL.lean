/- Put together of: ShC, CmN. -/
import Derived.Test.YtkpobihpcnoemaaDoorGaO
import Derived.Test.YtkpobihpcnoemaaDoorGaD
import Derived.Test.YtkpobihpcnoemaaDoorCmL
/- How many marks nested data take. No Go text is spoken of here. -/
namespace Go.Proofs.YtkpobihpcnoemaaDoor
open Go.RowKit
set_option linter.unusedVariables false

def Small : Sh → Prop
  | .pair a b => Small a ∧ Small b
  | .list e => e.c ≤ 64 ∧ Small e
  | _ => True
theorem cnt_le : ∀ (s : Sh) (x : s.T), Small s → cntD s x ≤ s.c + 64 * szD s x
  | .int, _, _ => by show 1 ≤ 1 + 64 * 0; omega
  | .str, b, _ => by show 1 ≤ 1 + 64 * b.size; omega
  | .bool, _, _ => by show 1 ≤ 1 + 64 * 0; omega
  | .nil, _, _ => by show 0 ≤ _; omega
  | .pair a b, x, h => by
    have h1 := cnt_le a x.1 h.1
    have h2 := cnt_le b x.2 h.2
    show cntD a x.1 + cntD b x.2 ≤ a.c + b.c + 64 * (szD a x.1 + szD b x.2)
    omega
  | .list e, l, h => by
    show (l.map (cntD e)).sum ≤ 1 + 64 * (l.length + (l.map (szD e)).sum)
    have h2 : (l.map (cntD e)).sum ≤ 64 * (l.length + (l.map (szD e)).sum) := by
      induction l with
      | nil => simp
      | cons x t ih =>
        have h1 := cnt_le e x h.2
        have := h.1
        simp only [List.map_cons, List.sum_cons, List.length_cons]
        have := ih
        omega
    omega
theorem cntT_le : ∀ (s : Sh) (x : s.T), cntT s x ≤ cntD s x
  | .int, _ => Nat.zero_le _
  | .str, _ => Nat.zero_le _
  | .bool, _ => Nat.zero_le _
  | .nil, _ => Nat.zero_le _
  | .pair a b, x => by
    have h1 := cntT_le a x.1
    have h2 := cntT_le b x.2
    show cntT a x.1 + cntT b x.2 ≤ cntD a x.1 + cntD b x.2
    omega
  | .list e, l => Nat.le_refl _
theorem sz_snoc (e : Sh) (l : List e.T) (x : e.T) : szD (.list e) (l ++ [x]) = szD (.list e) l + (1 + szD e x) := by
  show (l ++ [x]).length + ((l ++ [x]).map (szD e)).sum = l.length + (l.map (szD e)).sum + (1 + szD e x)
  rw [List.length_append, List.map_append, List.sum_append]
  simp
  omega
end Go.Proofs.YtkpobihpcnoemaaDoor
/- Commits: a new one, on both sides. Written by tools/mkCmN.py. -/
namespace Go.Proofs.YtkpobihpcnoemaaDoor
open Go.RowKit
set_option linter.unusedVariables false
set_option linter.unusedSimpArgs false

def nwS (n : Int) : Shd := mkS (List.replicate n.toNat (mkR false 0))
def nwOk (am : List (Sh.T .int)) : Bool := inR (am.length : Int) 1 4 && am.all fun n => inR n 1 5
def nwC (am : List (Sh.T .int)) : List Shd := if nwOk am = true then am.map nwS else []
theorem nw_none {am : List (Sh.T .int)} (h : nwOk am = false) : nwC am = [] := by unfold nwC; rw [h]; rfl
theorem nw_some {am : List (Sh.T .int)} (h : nwOk am = true) : nwC am = am.map nwS := by unfold nwC; rw [h]; rfl
/-- Between the rounds: the answer's cells, the variable c and its row. -/
def NcS (w wr : World) (v : Value) (l : List Shd) : Prop :=
  Bx wr w.heap.size [.slice none 0 0, .int .i64 0, .int .i64 0] ∧ Bx wr (w.heap.size + 1) [v, .int .i64 0, .int .i64 0] ∧ LsX wr (w.heap.size + 2) v l ∧ Below w.heap.size w wr ∧ w.heap.size + 2 ≤ wr.heap.size
theorem NcS.done {w wr W : World} {v : Value} {l : List Shd} (h : NcS w wr v l) (hW : TurnS (fun k => k = w.heap.size) wr W) : AnC l 0 0 true w (.returned (.tuple #[.agg #[v, .int .i64 0, .int .i64 0], .bool true])) W := by
  obtain ⟨h1, h2, h3, h4, h5⟩ := h
  have hl := h3.turn hW (fun k hk => by have hk : k = w.heap.size := hk; omega)
  exact ⟨v, rfl, ((hl.commit 0 0).lower (by omega)).mono (fun k hk => by simp only [Btw] at hk ⊢; omega), h4.trans (hW.below (fun k hk => by have hk : k = w.heap.size := hk; omega) h4.size)⟩
theorem atI_len {l : List (Sh.T .int)} {k : Nat} (h : k < l.length) : l[k] = atI l k := (atI_lt h).symm
theorem map_succ {am : List (Sh.T .int)} {k : Nat} (h : k < am.length) : (am.take (k + 1)).map nwS = (am.take k).map nwS ++ [nwS (atI am k)] := by
  rw [List.take_succ_eq_append_getElem h, List.map_append, atI_len h]; rfl

theorem NcS.put {w W : World} {v v9 : Value} {l : List Shd} (h : Bx W w.heap.size [.slice none 0 0, .int .i64 0, .int .i64 0] ∧ Bx W (w.heap.size + 1) [v, .int .i64 0, .int .i64 0] ∧ LsX W (w.heap.size + 2) v9 l ∧ Below w.heap.size w W ∧ w.heap.size + 2 ≤ W.heap.size) : NcS w (W.setCell ⟨w.heap.size + 1, 0, none⟩ v9) v9 l := by
  obtain ⟨h1, h2, h3, h4, h5⟩ := h
  have ht := turn_set W ⟨w.heap.size + 1, 0, none⟩ v9
  exact ⟨h1.turnS ht (by simp), h2.set (k := 0) (by simp) v9, h3.turn ht (fun k hk => by have hk : k = w.heap.size + 1 := hk; omega), h4.setCell (p := ⟨w.heap.size + 1, 0, none⟩) (by simp) _, by rw [World.size_setCell]; exact h5⟩


set_option maxRecDepth 100000 in
set_option maxHeartbeats 4000000 in
theorem newCommit_x (a : Option Addr) (cp : Nat) (am : List (Sh.T .int)) (w : World) (hn : am.length ≤ 1073741824) (h : Lies w (.list .int) [.slice a am.length cp] am) :
    Calls Tryd.prog 36 #[.slice a am.length cp] w (AnC (nwC am) 0 0 (nwOk am) w) := by
  obtain ⟨w0, hw0⟩ : ∃ x, x = w.alloc (.cells #[.slice none 0 0, .int .i64 0, .int .i64 0] 29) := ⟨_, rfl⟩
  have hb0 : Below w.heap.size w w0 := hw0 ▸ Go.Joins.below_alloc1 _ _
  have HB0 : Hid (Bx w0 w.heap.size [.slice none 0 0, .int .i64 0, .int .i64 0] ∧ Below w.heap.size w w0 ∧ w0.heap.size = w.heap.size + 1) := ⟨hw0 ▸ Bx.new w [_, _, _] _, hb0, by rw [hw0]; simp⟩
  have HL := Hid.intro h
  clear hb0 h
  obtain ⟨j0, hj0, hy0, hy1, hy2⟩ := info_parts inf_Shard
  obtain ⟨i0, hi0, hz0, hz1, hz2⟩ := info_parts inf_Replica
  cases c0 : inR (am.length : Int) 1 4
  · have e1 : nwOk am = false := by unfold nwOk; rw [c0]; rfl
    have HN : Hid (nwC am = [] ∧ nwOk am = false) := ⟨nw_none e1, e1⟩
    clear e1
    have z0 := HB0.out.1.cell 0 rfl
    have zf0 := HB0.out.1.frz 0 (by simp)
    have z1 := HB0.out.1.cell 1 rfl
    have zf1 := HB0.out.1.frz 1 (by simp)
    have z2 := HB0.out.1.cell 2 rfl
    have zf2 := HB0.out.1.frz 2 (by simp)
    have zz := HB0.out.1.2
    go_enter Tryd.func36, Tryd.ntmps36
    go_upto_region 1 with fail
    rw [← hw0]
    clear hw0
    go_wp2_with (go_at_call 45; refine (inRange_any _ _ _ _).mono ?_; rintro e w' ⟨rfl, hw⟩; have hw := hw.symm; subst hw; rw [c0])
    refine bodyPost_ret (v := .tuple #[.agg #[.slice none 0 0, .int .i64 0, .int .i64 0], .bool false]) (by simp [results, Tryd.results36, go_sem, *]) rfl ?_
    rw [HN.out.1, HN.out.2]
    exact AnC.zero (HB0.out.2.1.trans ((set3 w0 w.heap.size _ _ _).below (fun k e => by have e : k = w.heap.size := e; omega) HB0.out.2.1.size))

  go_enter Tryd.func36, Tryd.ntmps36
  go_upto_region 1 with fail
  rw [← hw0]
  clear hw0
  obtain ⟨w1, hw1⟩ : ∃ x, x = w0.alloc (.cells #[.slice none 0 0, .int .i64 0, .int .i64 0] 29) := ⟨_, rfl⟩
  have HI : Hid (NcS w w1 (.slice none 0 0) ((am.take 0).map nwS)) := by
    have hb := Go.Joins.below_alloc1 w0 (.cells #[.slice none 0 0, .int .i64 0, .int .i64 0] 29)
    rw [← hw1] at hb
    exact ⟨HB0.out.1.next hb, by rw [← HB0.out.2.2]; exact hw1 ▸ Bx.new w0 [_, _, _] _, LsX.nil, below_next HB0.out.2.1 hb, by rw [hw1]; simp; rw [HB0.out.2.2]; omega⟩
  have hsz0 : w0.heap.size = w.heap.size + 1 := HB0.out.2.2
  clear HB0
  go_wp2_with (go_at_call 45; refine (inRange_any _ _ _ _).mono ?_; rintro e w' ⟨rfl, hw⟩; have hw := hw.symm; subst hw; rw [c0])
  rw [← hw1]
  (try rw [hsz0])
  clear hw1 hsz0
  go_loopw [14, 6] (fun i u wr => ∃ (k : Nat) (v : Value), k ≤ am.length ∧ i = .int .i64 k ∧ (∀ o ∈ am.take k, inR o 1 5 = true) ∧ NcS w wr v ((am.take k).map nwS)) (fun i _ _ => am.length - (intOf i).toNat)
  case atStart => exact ⟨0, _, Nat.zero_le _, rfl, fun o ho => by simp at ho, HI.out⟩
  case round =>
    obtain ⟨k, v, hk, rfl, hno, hS⟩ := hrel
    have HO := Hid.intro hno
    have HS := Hid.intro hS
    clear hno hS HI
    by_cases hlt : k < am.length
    · have hlt' : (k : Int) < (am.length : Int) := by omega
      have HLE := Hid.intro (HL.out.next HS.out.2.2.2.1)
      rcases lies_sl HLE.out with q | ⟨xg, xoff, hxa, hxs, hE⟩
      · omega
      subst hxa
      have c2 := int_cell hE hlt
      have HM := Hid.intro (map_succ hlt)
      have HK : Hid (am[k] = atI am k) := atI_len hlt
      clear hE HLE
      obtain ⟨y, hy⟩ : ∃ y : Int, y = atI am k := ⟨_, rfl⟩
      rw [← hy] at c2 HM HK
      clear hy
      cases c3 : inR y 1 5
      · have e1 : nwOk am = false := by unfold nwOk; rw [all_no hlt (by rw [HK.out]; exact c3)]; simp
        have HN : Hid (nwC am = [] ∧ nwOk am = false) := ⟨nw_none e1, e1⟩
        clear e1
        have z0 := HS.out.1.cell 0 rfl
        have zf0 := HS.out.1.frz 0 (by simp)
        have z1 := HS.out.1.cell 1 rfl
        have zf1 := HS.out.1.frz 1 (by simp)
        have z2 := HS.out.1.cell 2 rfl
        have zf2 := HS.out.1.frz 2 (by simp)
        have zz := HS.out.1.2
        go_wp2_with (go_at_call 45; refine (inRange_any _ _ _ _).mono ?_; rintro e w' ⟨rfl, hw⟩; have hw := hw.symm; subst hw; rw [c3])
        refine bodyPost_ret (v := .tuple #[.agg #[.slice none 0 0, .int .i64 0, .int .i64 0], .bool false]) (by simp [results, Tryd.results36, go_sem, *]) rfl ?_
        rw [HN.out.1, HN.out.2]
        exact AnC.zero (HS.out.2.2.2.1.trans ((set3 wr w.heap.size _ _ _).below (fun k e => by have e : k = w.heap.size := e; omega) HS.out.2.2.2.1.size))

      have HY : Hid (inR am[k] 1 5 = true) := Hid.intro (by rw [HK.out]; exact c3)
      obtain ⟨n, hyn⟩ : ∃ n : Nat, y = (n : Int) := ⟨y.toNat, by have := (inR_iff.1 c3).1; omega⟩
      have hn5 : n ≤ 5 := by have := (inR_iff.1 c3).2; omega
      subst hyn
      go_upto_region 9 with (go_at_call 45; refine (inRange_any _ _ _ _).mono ?_; rintro e w' ⟨rfl, hw⟩; have hw := hw.symm; subst hw; rw [c3])
      clear c2
      have hb := below_drew wr
      obtain ⟨M, hM⟩ : ∃ M, M = (am.take k).map nwS := ⟨_, rfl⟩
      have hMl : M.length ≤ 1073741824 := by rw [hM, List.length_map, List.length_take]; omega
      have HS : Hid (NcS w wr v M) := hM ▸ HS
      rw [← hM] at HM
      clear hM
      obtain ⟨xs, S, B, hR⟩ := (HS.out.2.2.1.next hb).open
      obtain ⟨va, vc, hvf⟩ := HS.out.2.2.1.form
      subst hvf
      have HW : Hid (Bx wr.drew w.heap.size [.slice none 0 0, .int .i64 0, .int .i64 0] ∧ Bx wr.drew (w.heap.size + 1) [.slice va M.length vc, .int .i64 0, .int .i64 0] ∧ LsR wr.drew (w.heap.size + 2) (.slice va M.length vc) M xs S B ∧ Below w.heap.size w wr.drew ∧ w.heap.size + 2 ≤ wr.drew.heap.size) := ⟨HS.out.1.next hb, HS.out.2.1.next hb, hR, below_next HS.out.2.2.2.1 hb, HS.out.2.2.2.2⟩
      clear HS hR hb
      refine wp_region_noPanic ?_
      refine wp_region_held_drew (S := fun W => True) (by kernel_rfl) trivial (fun hHeld => ?_)
      obtain ⟨W, hWE⟩ : ∃ x, x = wr.drew := ⟨_, rfl⟩
      rw [← hWE] at HW ⊢
      clear hWE
      refine take_v (v := ?_) 0 ⟨some 22, Op.fieldAddr 29 (Operand.tmp 4) 0, _, _, _, none⟩ rfl (fun _ _ _ h => h) ?_ hHeld ?_
      rotate_left
      · (intro W _; go_simp <;> (try with_reducible rfl))
      refine take_v (v := ?_) 2 ⟨some 24, Op.move (Operand.tmp 6), _, _, _, none⟩ rfl (fun _ _ _ h => h) ?_ hHeld ?_
      rotate_left
      · (intro W _; go_simp <;> (try with_reducible rfl))
      refine ready_two 1 3 ⟨some 23, Op.load 27 (Operand.tmp 22), _, _, _, none⟩ ⟨some 25, Op.makeSlice 40 (Operand.tmp 24) (Operand.tmp 24), _, _, _, none⟩ (by kernel_rfl) rfl rfl (by kernel_rfl) (by kernel_rfl) (fun KC hK => ?_) (fun KC hK => ?_)
      ·
        have s0 := HW.out.2.1.cell 0 rfl
        have s1 := HW.out.2.1.cell 1 rfl
        have s2 := HW.out.2.1.cell 2 rfl
        have sz := HW.out.2.1.2
        go_wp2_with fail
        clear s0 s1 s2 sz
        refine hK.out _ _ trivial (fun hHeld => ?_)
        clear hK KC
        refine ready_call 3 ⟨some 25, Op.makeSlice 40 (Operand.tmp 24) (Operand.tmp 24), _, _, _, none⟩ (by kernel_rfl) rfl (by kernel_rfl) (fun KC hK => ?_)
        refine wp_make_rep (.tmp 24) (.tmp 24) 40 44 (by rfl) i0 Tryd.underlying40 hi0 hz0 hz1 n (by rfl) (by rfl) (by rw [hz2]; omega) (by unfold maxLen; omega) ?_
        intro W2 hO hb hlt2
        obtain ⟨g, hg⟩ : ∃ g, g = W.heap.size := ⟨_, rfl⟩
        rw [← hg] at hO hlt2 ⊢
        have HG : Hid (OwnX W2 (w.heap.size + 2) (.list tyReplica 44) [.slice (some ⟨g, 0, none⟩) n n] (List.replicate n (mkR false 0)) (fun k => k = g) ∧ ¬ S g ∧ g < W2.heap.size ∧ w.heap.size + 2 ≤ g) := ⟨hO.lower (by have := HW.out.2.2.2.2; omega), fun q => by have := (HW.out.2.2.1.z g q).2; omega, hlt2, by have := HW.out.2.2.2.2; omega⟩
        have HW := (show Hid (Bx W2 w.heap.size [.slice none 0 0, .int .i64 0, .int .i64 0] ∧ Bx W2 (w.heap.size + 1) [.slice va M.length vc, .int .i64 0, .int .i64 0] ∧ LsR W2 (w.heap.size + 2) (.slice va M.length vc) M xs S B ∧ Below w.heap.size w W2 ∧ w.heap.size + 2 ≤ W2.heap.size) from ⟨HW.out.1.next hb, HW.out.2.1.next hb, HW.out.2.2.1.next hb, below_next HW.out.2.2.2.1 hb, Nat.le_trans HW.out.2.2.2.2 hb.size⟩)
        clear hO hb hlt2 hg
        refine hK.out _ _ trivial (fun hHeld => ?_)
        clear hK KC
        refine take_v (v := ?_) 4 ⟨some 26, Op.build 42 #[(0, Operand.tmp 25)], _, _, _, none⟩ rfl (fun _ _ _ h => h) ?_ hHeld ?_
        rotate_left
        · (intro W _; go_simp <;> (try with_reducible rfl))
        refine ready_call 5 ⟨some 27, Op.buildSlice 27 1 #[(0, Operand.tmp 26)], _, _, _, none⟩ (by kernel_rfl) rfl (by kernel_rfl) (fun KC hK => ?_)
        go_wp2_with fail
        have hb := Go.Joins.below_alloc1 W2 (.cells #[.slice (some ⟨g, 0, none⟩) n n] 42)
        obtain ⟨W3, hW3⟩ : ∃ x, x = W2.alloc (.cells #[.slice (some ⟨g, 0, none⟩) n n] 42) := ⟨_, rfl⟩
        have HNW := Hid.intro (cells_new W2 [.slice (some ⟨g, 0, none⟩) n n] 42)
        rw [← hW3] at hb HNW ⊢
        obtain ⟨q, hq⟩ : ∃ q, q = W2.heap.size := ⟨_, rfl⟩
        rw [← hq] at HNW ⊢
        have HG := (show Hid (OwnX W3 (w.heap.size + 2) (.list tyReplica 44) [.slice (some ⟨g, 0, none⟩) n n] (List.replicate n (mkR false 0)) (fun k => k = g) ∧ ¬ S g ∧ g < W3.heap.size ∧ w.heap.size + 2 ≤ g) from ⟨HG.out.1.next hb, HG.out.2.1, Nat.lt_of_lt_of_le HG.out.2.2.1 hb.size, HG.out.2.2.2⟩)
        have HW := (show Hid (Bx W3 w.heap.size [.slice none 0 0, .int .i64 0, .int .i64 0] ∧ Bx W3 (w.heap.size + 1) [.slice va M.length vc, .int .i64 0, .int .i64 0] ∧ LsR W3 (w.heap.size + 2) (.slice va M.length vc) M xs S B ∧ Below w.heap.size w W3 ∧ w.heap.size + 2 ≤ W3.heap.size) from ⟨HW.out.1.next hb, HW.out.2.1.next hb, HW.out.2.2.1.next hb, below_next HW.out.2.2.2.1 hb, Nat.le_trans HW.out.2.2.2.2 hb.size⟩)
        clear hb hW3 hq
        refine hK.out _ _ trivial (fun hHeld => ?_)
        clear hK KC
        refine ready_call 6 ⟨some 28, Op.call { callee := Callee.builtin Builtin.append, args := #[Operand.tmp 23, Operand.tmp 27], argTypes := #[27, 27] }, _, _, _, none⟩ (by kernel_rfl) rfl (by kernel_rfl) (fun KC hK => ?_)
        have hsz := HW.out.2.2.2.2
        refine wp_append_at W3 (.tmp 23) (.tmp 27) 27 (by rfl) (w.heap.size + 2) 42 j0 (.agg #[.slice none 0 0]) 1 24 Tryd.underlying27 hj0 hy0 hy1 hy2 rfl (by decide) (.slice va M.length vc) M.length xs (by rfl) HW.out.2.2.1.row ⟨q, 0, none⟩ 1 1 [.slice (some ⟨g, 0, none⟩) n n] (by rfl) rfl HNW.out (by intro u hu; simp at hu; subst hu; rfl) (by unfold maxLen; omega) (by omega) hsz ?_
        intro v9 w9 hown9 hgrow9 hwh9
        have hX : LsX w9 (w.heap.size + 2) v9 ((am.take (k + 1)).map nwS) := by rw [HM.out]; exact HW.out.2.2.1.app HG.out.1 (fun k hk => by have hk : k = g := hk; subst hk; exact ⟨HG.out.2.2.2, HG.out.2.2.1, HG.out.2.1⟩) hown9 hgrow9 hwh9
        obtain ⟨M2, hM2⟩ : ∃ M2, M2 = (am.take (k + 1)).map nwS := ⟨_, rfl⟩
        rw [← hM2] at hX
        have HM2 := Hid.intro hM2
        clear hM2
        have hlo : ∀ k, (Value.slice va M.length vc).ownBlock = some k → w.heap.size + 2 ≤ k := fun k hk => (HW.out.2.2.1.row.lt k hk).1
        have HF : Hid (Bx w9 w.heap.size [.slice none 0 0, .int .i64 0, .int .i64 0] ∧ Bx w9 (w.heap.size + 1) [.slice va M.length vc, .int .i64 0, .int .i64 0] ∧ LsX w9 (w.heap.size + 2) v9 M2 ∧ Below w.heap.size w w9 ∧ w.heap.size + 2 ≤ w9.heap.size) := ⟨HW.out.1.grow hgrow9 (fun e => by have := hlo _ e.symm; omega), HW.out.2.1.grow hgrow9 (fun e => by have := hlo _ e.symm; omega), hX, HW.out.2.2.2.1.grown hgrow9 HW.out.2.2.2.1.size (fun k hk => by have := hlo k hk; omega), Nat.le_trans HW.out.2.2.2.2 hgrow9.size⟩
        obtain ⟨a9, c9, hv9⟩ := hX.form
        subst hv9
        clear hown9 hgrow9 hwh9 hX hlo hsz
        refine hK.out _ _ trivial (fun hHeld => ?_)
        clear hK KC
        refine take_v (v := ?_) 7 ⟨some 29, Op.fieldAddr 29 (Operand.tmp 4) 0, _, _, _, none⟩ rfl (fun _ _ _ h => h) ?_ hHeld ?_
        rotate_left
        · (intro W _; go_simp <;> (try with_reducible rfl))
        refine ready_call 8 ⟨none, Op.store 27 (Operand.tmp 29) (Operand.tmp 28), _, _, _, none⟩ (by kernel_rfl) rfl (by kernel_rfl) (fun KC hK => ?_)
        have r0 := HF.out.2.1.cell 0 rfl
        have r1 := HF.out.2.1.cell 1 rfl
        have r2 := HF.out.2.1.cell 2 rfl
        have rz := HF.out.2.1.2
        have g0 := HF.out.2.1.frz 0 (by simp)
        go_wp2_with fail
        clear r0 r1 r2 rz g0
        refine hK.out _ _ trivial (fun hHeld => ?_)
        clear hK KC
        refine wpAnyH_done (by kernel_rfl) ?_ _
        refine NoPanic.normal ?_
        clear hHeld
        go_wp2
        go_roundw
        case rel => exact ⟨k + 1, _, by omega, by go_num, mem_take_succ hlt HO.out HY.out, by rw [← HM2.out]; exact NcS.put HF.out⟩
        case measure => simp [intOf]; omega
      ·
        refine wp_make_rep (.tmp 24) (.tmp 24) 40 44 (by rfl) i0 Tryd.underlying40 hi0 hz0 hz1 n (by rfl) (by rfl) (by rw [hz2]; omega) (by unfold maxLen; omega) ?_
        intro W2 hO hb hlt2
        obtain ⟨g, hg⟩ : ∃ g, g = W.heap.size := ⟨_, rfl⟩
        rw [← hg] at hO hlt2 ⊢
        have HG : Hid (OwnX W2 (w.heap.size + 2) (.list tyReplica 44) [.slice (some ⟨g, 0, none⟩) n n] (List.replicate n (mkR false 0)) (fun k => k = g) ∧ ¬ S g ∧ g < W2.heap.size ∧ w.heap.size + 2 ≤ g) := ⟨hO.lower (by have := HW.out.2.2.2.2; omega), fun q => by have := (HW.out.2.2.1.z g q).2; omega, hlt2, by have := HW.out.2.2.2.2; omega⟩
        have HW := (show Hid (Bx W2 w.heap.size [.slice none 0 0, .int .i64 0, .int .i64 0] ∧ Bx W2 (w.heap.size + 1) [.slice va M.length vc, .int .i64 0, .int .i64 0] ∧ LsR W2 (w.heap.size + 2) (.slice va M.length vc) M xs S B ∧ Below w.heap.size w W2 ∧ w.heap.size + 2 ≤ W2.heap.size) from ⟨HW.out.1.next hb, HW.out.2.1.next hb, HW.out.2.2.1.next hb, below_next HW.out.2.2.2.1 hb, Nat.le_trans HW.out.2.2.2.2 hb.size⟩)
        clear hO hb hlt2 hg
        refine hK.out _ _ trivial (fun hHeld => ?_)
        clear hK KC
        refine take_v (v := ?_) 4 ⟨some 26, Op.build 42 #[(0, Operand.tmp 25)], _, _, _, none⟩ rfl (fun _ _ _ h => h) ?_ hHeld ?_
        rotate_left
        · (intro W _; go_simp <;> (try with_reducible rfl))
        refine ready_two 1 5 ⟨some 23, Op.load 27 (Operand.tmp 22), _, _, _, none⟩ ⟨some 27, Op.buildSlice 27 1 #[(0, Operand.tmp 26)], _, _, _, none⟩ (by kernel_rfl) rfl rfl (by kernel_rfl) (by kernel_rfl) (fun KC hK => ?_) (fun KC hK => ?_)
        ·
          have s0 := HW.out.2.1.cell 0 rfl
          have s1 := HW.out.2.1.cell 1 rfl
          have s2 := HW.out.2.1.cell 2 rfl
          have sz := HW.out.2.1.2
          go_wp2_with fail
          clear s0 s1 s2 sz
          refine hK.out _ _ trivial (fun hHeld => ?_)
          clear hK KC
          refine ready_call 5 ⟨some 27, Op.buildSlice 27 1 #[(0, Operand.tmp 26)], _, _, _, none⟩ (by kernel_rfl) rfl (by kernel_rfl) (fun KC hK => ?_)
          go_wp2_with fail
          have hb := Go.Joins.below_alloc1 W2 (.cells #[.slice (some ⟨g, 0, none⟩) n n] 42)
          obtain ⟨W3, hW3⟩ : ∃ x, x = W2.alloc (.cells #[.slice (some ⟨g, 0, none⟩) n n] 42) := ⟨_, rfl⟩
          have HNW := Hid.intro (cells_new W2 [.slice (some ⟨g, 0, none⟩) n n] 42)
          rw [← hW3] at hb HNW ⊢
          obtain ⟨q, hq⟩ : ∃ q, q = W2.heap.size := ⟨_, rfl⟩
          rw [← hq] at HNW ⊢
          have HG := (show Hid (OwnX W3 (w.heap.size + 2) (.list tyReplica 44) [.slice (some ⟨g, 0, none⟩) n n] (List.replicate n (mkR false 0)) (fun k => k = g) ∧ ¬ S g ∧ g < W3.heap.size ∧ w.heap.size + 2 ≤ g) from ⟨HG.out.1.next hb, HG.out.2.1, Nat.lt_of_lt_of_le HG.out.2.2.1 hb.size, HG.out.2.2.2⟩)
          have HW := (show Hid (Bx W3 w.heap.size [.slice none 0 0, .int .i64 0, .int .i64 0] ∧ Bx W3 (w.heap.size + 1) [.slice va M.length vc, .int .i64 0, .int .i64 0] ∧ LsR W3 (w.heap.size + 2) (.slice va M.length vc) M xs S B ∧ Below w.heap.size w W3 ∧ w.heap.size + 2 ≤ W3.heap.size) from ⟨HW.out.1.next hb, HW.out.2.1.next hb, HW.out.2.2.1.next hb, below_next HW.out.2.2.2.1 hb, Nat.le_trans HW.out.2.2.2.2 hb.size⟩)
          clear hb hW3 hq
          refine hK.out _ _ trivial (fun hHeld => ?_)
          clear hK KC
          refine ready_call 6 ⟨some 28, Op.call { callee := Callee.builtin Builtin.append, args := #[Operand.tmp 23, Operand.tmp 27], argTypes := #[27, 27] }, _, _, _, none⟩ (by kernel_rfl) rfl (by kernel_rfl) (fun KC hK => ?_)
          have hsz := HW.out.2.2.2.2
          refine wp_append_at W3 (.tmp 23) (.tmp 27) 27 (by rfl) (w.heap.size + 2) 42 j0 (.agg #[.slice none 0 0]) 1 24 Tryd.underlying27 hj0 hy0 hy1 hy2 rfl (by decide) (.slice va M.length vc) M.length xs (by rfl) HW.out.2.2.1.row ⟨q, 0, none⟩ 1 1 [.slice (some ⟨g, 0, none⟩) n n] (by rfl) rfl HNW.out (by intro u hu; simp at hu; subst hu; rfl) (by unfold maxLen; omega) (by omega) hsz ?_
          intro v9 w9 hown9 hgrow9 hwh9
          have hX : LsX w9 (w.heap.size + 2) v9 ((am.take (k + 1)).map nwS) := by rw [HM.out]; exact HW.out.2.2.1.app HG.out.1 (fun k hk => by have hk : k = g := hk; subst hk; exact ⟨HG.out.2.2.2, HG.out.2.2.1, HG.out.2.1⟩) hown9 hgrow9 hwh9
          obtain ⟨M2, hM2⟩ : ∃ M2, M2 = (am.take (k + 1)).map nwS := ⟨_, rfl⟩
          rw [← hM2] at hX
          have HM2 := Hid.intro hM2
          clear hM2
          have hlo : ∀ k, (Value.slice va M.length vc).ownBlock = some k → w.heap.size + 2 ≤ k := fun k hk => (HW.out.2.2.1.row.lt k hk).1
          have HF : Hid (Bx w9 w.heap.size [.slice none 0 0, .int .i64 0, .int .i64 0] ∧ Bx w9 (w.heap.size + 1) [.slice va M.length vc, .int .i64 0, .int .i64 0] ∧ LsX w9 (w.heap.size + 2) v9 M2 ∧ Below w.heap.size w w9 ∧ w.heap.size + 2 ≤ w9.heap.size) := ⟨HW.out.1.grow hgrow9 (fun e => by have := hlo _ e.symm; omega), HW.out.2.1.grow hgrow9 (fun e => by have := hlo _ e.symm; omega), hX, HW.out.2.2.2.1.grown hgrow9 HW.out.2.2.2.1.size (fun k hk => by have := hlo k hk; omega), Nat.le_trans HW.out.2.2.2.2 hgrow9.size⟩
          obtain ⟨a9, c9, hv9⟩ := hX.form
          subst hv9
          clear hown9 hgrow9 hwh9 hX hlo hsz
          refine hK.out _ _ trivial (fun hHeld => ?_)
          clear hK KC
          refine take_v (v := ?_) 7 ⟨some 29, Op.fieldAddr 29 (Operand.tmp 4) 0, _, _, _, none⟩ rfl (fun _ _ _ h => h) ?_ hHeld ?_
          rotate_left
          · (intro W _; go_simp <;> (try with_reducible rfl))
          refine ready_call 8 ⟨none, Op.store 27 (Operand.tmp 29) (Operand.tmp 28), _, _, _, none⟩ (by kernel_rfl) rfl (by kernel_rfl) (fun KC hK => ?_)
          have r0 := HF.out.2.1.cell 0 rfl
          have r1 := HF.out.2.1.cell 1 rfl
          have r2 := HF.out.2.1.cell 2 rfl
          have rz := HF.out.2.1.2
          have g0 := HF.out.2.1.frz 0 (by simp)
          go_wp2_with fail
          clear r0 r1 r2 rz g0
          refine hK.out _ _ trivial (fun hHeld => ?_)
          clear hK KC
          refine wpAnyH_done (by kernel_rfl) ?_ _
          refine NoPanic.normal ?_
          clear hHeld
          go_wp2
          go_roundw
          case rel => exact ⟨k + 1, _, by omega, by go_num, mem_take_succ hlt HO.out HY.out, by rw [← HM2.out]; exact NcS.put HF.out⟩
          case measure => simp [intOf]; omega
        ·
          go_wp2_with fail
          have hb := Go.Joins.below_alloc1 W2 (.cells #[.slice (some ⟨g, 0, none⟩) n n] 42)
          obtain ⟨W3, hW3⟩ : ∃ x, x = W2.alloc (.cells #[.slice (some ⟨g, 0, none⟩) n n] 42) := ⟨_, rfl⟩
          have HNW := Hid.intro (cells_new W2 [.slice (some ⟨g, 0, none⟩) n n] 42)
          rw [← hW3] at hb HNW ⊢
          obtain ⟨q, hq⟩ : ∃ q, q = W2.heap.size := ⟨_, rfl⟩
          rw [← hq] at HNW ⊢
          have HG := (show Hid (OwnX W3 (w.heap.size + 2) (.list tyReplica 44) [.slice (some ⟨g, 0, none⟩) n n] (List.replicate n (mkR false 0)) (fun k => k = g) ∧ ¬ S g ∧ g < W3.heap.size ∧ w.heap.size + 2 ≤ g) from ⟨HG.out.1.next hb, HG.out.2.1, Nat.lt_of_lt_of_le HG.out.2.2.1 hb.size, HG.out.2.2.2⟩)
          have HW := (show Hid (Bx W3 w.heap.size [.slice none 0 0, .int .i64 0, .int .i64 0] ∧ Bx W3 (w.heap.size + 1) [.slice va M.length vc, .int .i64 0, .int .i64 0] ∧ LsR W3 (w.heap.size + 2) (.slice va M.length vc) M xs S B ∧ Below w.heap.size w W3 ∧ w.heap.size + 2 ≤ W3.heap.size) from ⟨HW.out.1.next hb, HW.out.2.1.next hb, HW.out.2.2.1.next hb, below_next HW.out.2.2.2.1 hb, Nat.le_trans HW.out.2.2.2.2 hb.size⟩)
          clear hb hW3 hq
          refine hK.out _ _ trivial (fun hHeld => ?_)
          clear hK KC
          refine ready_call 1 ⟨some 23, Op.load 27 (Operand.tmp 22), _, _, _, none⟩ (by kernel_rfl) rfl (by kernel_rfl) (fun KC hK => ?_)
          have s0 := HW.out.2.1.cell 0 rfl
          have s1 := HW.out.2.1.cell 1 rfl
          have s2 := HW.out.2.1.cell 2 rfl
          have sz := HW.out.2.1.2
          go_wp2_with fail
          clear s0 s1 s2 sz
          refine hK.out _ _ trivial (fun hHeld => ?_)
          clear hK KC
          refine ready_call 6 ⟨some 28, Op.call { callee := Callee.builtin Builtin.append, args := #[Operand.tmp 23, Operand.tmp 27], argTypes := #[27, 27] }, _, _, _, none⟩ (by kernel_rfl) rfl (by kernel_rfl) (fun KC hK => ?_)
          have hsz := HW.out.2.2.2.2
          refine wp_append_at W3 (.tmp 23) (.tmp 27) 27 (by rfl) (w.heap.size + 2) 42 j0 (.agg #[.slice none 0 0]) 1 24 Tryd.underlying27 hj0 hy0 hy1 hy2 rfl (by decide) (.slice va M.length vc) M.length xs (by rfl) HW.out.2.2.1.row ⟨q, 0, none⟩ 1 1 [.slice (some ⟨g, 0, none⟩) n n] (by rfl) rfl HNW.out (by intro u hu; simp at hu; subst hu; rfl) (by unfold maxLen; omega) (by omega) hsz ?_
          intro v9 w9 hown9 hgrow9 hwh9
          have hX : LsX w9 (w.heap.size + 2) v9 ((am.take (k + 1)).map nwS) := by rw [HM.out]; exact HW.out.2.2.1.app HG.out.1 (fun k hk => by have hk : k = g := hk; subst hk; exact ⟨HG.out.2.2.2, HG.out.2.2.1, HG.out.2.1⟩) hown9 hgrow9 hwh9
          obtain ⟨M2, hM2⟩ : ∃ M2, M2 = (am.take (k + 1)).map nwS := ⟨_, rfl⟩
          rw [← hM2] at hX
          have HM2 := Hid.intro hM2
          clear hM2
          have hlo : ∀ k, (Value.slice va M.length vc).ownBlock = some k → w.heap.size + 2 ≤ k := fun k hk => (HW.out.2.2.1.row.lt k hk).1
          have HF : Hid (Bx w9 w.heap.size [.slice none 0 0, .int .i64 0, .int .i64 0] ∧ Bx w9 (w.heap.size + 1) [.slice va M.length vc, .int .i64 0, .int .i64 0] ∧ LsX w9 (w.heap.size + 2) v9 M2 ∧ Below w.heap.size w w9 ∧ w.heap.size + 2 ≤ w9.heap.size) := ⟨HW.out.1.grow hgrow9 (fun e => by have := hlo _ e.symm; omega), HW.out.2.1.grow hgrow9 (fun e => by have := hlo _ e.symm; omega), hX, HW.out.2.2.2.1.grown hgrow9 HW.out.2.2.2.1.size (fun k hk => by have := hlo k hk; omega), Nat.le_trans HW.out.2.2.2.2 hgrow9.size⟩
          obtain ⟨a9, c9, hv9⟩ := hX.form
          subst hv9
          clear hown9 hgrow9 hwh9 hX hlo hsz
          refine hK.out _ _ trivial (fun hHeld => ?_)
          clear hK KC
          refine take_v (v := ?_) 7 ⟨some 29, Op.fieldAddr 29 (Operand.tmp 4) 0, _, _, _, none⟩ rfl (fun _ _ _ h => h) ?_ hHeld ?_
          rotate_left
          · (intro W _; go_simp <;> (try with_reducible rfl))
          refine ready_call 8 ⟨none, Op.store 27 (Operand.tmp 29) (Operand.tmp 28), _, _, _, none⟩ (by kernel_rfl) rfl (by kernel_rfl) (fun KC hK => ?_)
          have r0 := HF.out.2.1.cell 0 rfl
          have r1 := HF.out.2.1.cell 1 rfl
          have r2 := HF.out.2.1.cell 2 rfl
          have rz := HF.out.2.1.2
          have g0 := HF.out.2.1.frz 0 (by simp)
          go_wp2_with fail
          clear r0 r1 r2 rz g0
          refine hK.out _ _ trivial (fun hHeld => ?_)
          clear hK KC
          refine wpAnyH_done (by kernel_rfl) ?_ _
          refine NoPanic.normal ?_
          clear hHeld
          go_wp2
          go_roundw
          case rel => exact ⟨k + 1, _, by omega, by go_num, mem_take_succ hlt HO.out HY.out, by rw [← HM2.out]; exact NcS.put HF.out⟩
          case measure => simp [intOf]; omega
    · have hkn : k = am.length := by omega
      have e1 : nwOk am = true := by unfold nwOk; rw [c0, all_yes (by have := HO.out; rwa [hkn, List.take_length] at this)]; rfl
      have HN : Hid (nwC am = am.map nwS ∧ nwOk am = true) := ⟨nw_some e1, e1⟩
      have HS : Hid (NcS w wr v (am.map nwS)) := Hid.intro (by have := HS.out; rwa [hkn, List.take_length] at this)
      clear e1 hkn
      obtain ⟨va, vc, hvf⟩ := HS.out.2.2.1.form
      subst hvf
      have z0 := HS.out.1.cell 0 rfl
      have zf0 := HS.out.1.frz 0 (by simp)
      have z1 := HS.out.1.cell 1 rfl
      have zf1 := HS.out.1.frz 1 (by simp)
      have z2 := HS.out.1.cell 2 rfl
      have zf2 := HS.out.1.frz 2 (by simp)
      have zz := HS.out.1.2
      have r0 := HS.out.2.1.cell 0 rfl
      have r1 := HS.out.2.1.cell 1 rfl
      have r2 := HS.out.2.1.cell 2 rfl
      have rz := HS.out.2.1.2
      go_wp2
      refine bodyPost_ret (v := .tuple #[.agg #[.slice va (am.map nwS).length vc, .int .i64 0, .int .i64 0], .bool true]) (by simp [results, Tryd.results36, go_sem, *]) rfl ?_
      rw [HN.out.1, HN.out.2]
      exact HS.out.done (set3 _ _ _ _ _)


set_option maxRecDepth 100000 in
set_option maxHeartbeats 4000000 in
theorem specNewCommit_x (a : Option Addr) (cp : Nat) (am : List (Sh.T .int)) (w : World) (hn : am.length ≤ 1073741824) (h : Lies w (.list .int) [.slice a am.length cp] am) :
    Calls Tryd.prog 37 #[.slice a am.length cp] w (AnC (nwC am) 0 0 (nwOk am) w) := by
  obtain ⟨w0, hw0⟩ : ∃ x, x = w.alloc (.cells #[.slice none 0 0, .int .i64 0, .int .i64 0] 29) := ⟨_, rfl⟩
  have hb0 : Below w.heap.size w w0 := hw0 ▸ Go.Joins.below_alloc1 _ _
  have HB0 : Hid (Bx w0 w.heap.size [.slice none 0 0, .int .i64 0, .int .i64 0] ∧ Below w.heap.size w w0 ∧ w0.heap.size = w.heap.size + 1) := ⟨hw0 ▸ Bx.new w [_, _, _] _, hb0, by rw [hw0]; simp⟩
  have HL := Hid.intro h
  clear hb0 h
  obtain ⟨j0, hj0, hy0, hy1, hy2⟩ := info_parts inf_Shard
  obtain ⟨i0, hi0, hz0, hz1, hz2⟩ := info_parts inf_Replica
  cases c0 : inR (am.length : Int) 1 4
  · have e1 : nwOk am = false := by unfold nwOk; rw [c0]; rfl
    have HN : Hid (nwC am = [] ∧ nwOk am = false) := ⟨nw_none e1, e1⟩
    clear e1
    have z0 := HB0.out.1.cell 0 rfl
    have zf0 := HB0.out.1.frz 0 (by simp)
    have z1 := HB0.out.1.cell 1 rfl
    have zf1 := HB0.out.1.frz 1 (by simp)
    have z2 := HB0.out.1.cell 2 rfl
    have zf2 := HB0.out.1.frz 2 (by simp)
    have zz := HB0.out.1.2
    go_enter Tryd.func37, Tryd.ntmps37
    go_upto_region 1 with fail
    rw [← hw0]
    clear hw0
    go_wp2_with (go_at_call 60; refine (l1In_any _ _ _ _).mono ?_; rintro e w' ⟨rfl, hw⟩; have hw := hw.symm; subst hw; rw [c0])
    refine bodyPost_ret (v := .tuple #[.agg #[.slice none 0 0, .int .i64 0, .int .i64 0], .bool false]) (by simp [results, Tryd.results37, go_sem, *]) rfl ?_
    rw [HN.out.1, HN.out.2]
    exact AnC.zero (HB0.out.2.1.trans ((set3 w0 w.heap.size _ _ _).below (fun k e => by have e : k = w.heap.size := e; omega) HB0.out.2.1.size))

  go_enter Tryd.func37, Tryd.ntmps37
  go_upto_region 1 with fail
  rw [← hw0]
  clear hw0
  obtain ⟨w1, hw1⟩ : ∃ x, x = w0.alloc (.cells #[.slice none 0 0, .int .i64 0, .int .i64 0] 29) := ⟨_, rfl⟩
  have HI : Hid (NcS w w1 (.slice none 0 0) ((am.take 0).map nwS)) := by
    have hb := Go.Joins.below_alloc1 w0 (.cells #[.slice none 0 0, .int .i64 0, .int .i64 0] 29)
    rw [← hw1] at hb
    exact ⟨HB0.out.1.next hb, by rw [← HB0.out.2.2]; exact hw1 ▸ Bx.new w0 [_, _, _] _, LsX.nil, below_next HB0.out.2.1 hb, by rw [hw1]; simp; rw [HB0.out.2.2]; omega⟩
  have hsz0 : w0.heap.size = w.heap.size + 1 := HB0.out.2.2
  clear HB0
  go_wp2_with (go_at_call 60; refine (l1In_any _ _ _ _).mono ?_; rintro e w' ⟨rfl, hw⟩; have hw := hw.symm; subst hw; rw [c0])
  rw [← hw1]
  (try rw [hsz0])
  clear hw1 hsz0
  go_loopw [15, 6] (fun i u wr => ∃ (k : Nat) (v : Value), k ≤ am.length ∧ i = .int .i64 k ∧ (∀ o ∈ am.take k, inR o 1 5 = true) ∧ NcS w wr v ((am.take k).map nwS)) (fun i _ _ => am.length - (intOf i).toNat)
  case atStart => exact ⟨0, _, Nat.zero_le _, rfl, fun o ho => by simp at ho, HI.out⟩
  case round =>
    obtain ⟨k, v, hk, rfl, hno, hS⟩ := hrel
    have HO := Hid.intro hno
    have HS := Hid.intro hS
    clear hno hS HI
    by_cases hlt : k < am.length
    · have hlt' : (k : Int) < (am.length : Int) := by omega
      have HLE := Hid.intro (HL.out.next HS.out.2.2.2.1)
      rcases lies_sl HLE.out with q | ⟨xg, xoff, hxa, hxs, hE⟩
      · omega
      subst hxa
      have c2 := int_cell hE hlt
      have HM := Hid.intro (map_succ hlt)
      have HK : Hid (am[k] = atI am k) := atI_len hlt
      clear hE HLE
      obtain ⟨y, hy⟩ : ∃ y : Int, y = atI am k := ⟨_, rfl⟩
      rw [← hy] at c2 HM HK
      clear hy
      cases c3 : inR y 1 5
      · have e1 : nwOk am = false := by unfold nwOk; rw [all_no hlt (by rw [HK.out]; exact c3)]; simp
        have HN : Hid (nwC am = [] ∧ nwOk am = false) := ⟨nw_none e1, e1⟩
        clear e1
        have z0 := HS.out.1.cell 0 rfl
        have zf0 := HS.out.1.frz 0 (by simp)
        have z1 := HS.out.1.cell 1 rfl
        have zf1 := HS.out.1.frz 1 (by simp)
        have z2 := HS.out.1.cell 2 rfl
        have zf2 := HS.out.1.frz 2 (by simp)
        have zz := HS.out.1.2
        go_wp2_with (go_at_call 60; refine (l1In_any _ _ _ _).mono ?_; rintro e w' ⟨rfl, hw⟩; have hw := hw.symm; subst hw; rw [c3])
        refine bodyPost_ret (v := .tuple #[.agg #[.slice none 0 0, .int .i64 0, .int .i64 0], .bool false]) (by simp [results, Tryd.results37, go_sem, *]) rfl ?_
        rw [HN.out.1, HN.out.2]
        exact AnC.zero (HS.out.2.2.2.1.trans ((set3 wr w.heap.size _ _ _).below (fun k e => by have e : k = w.heap.size := e; omega) HS.out.2.2.2.1.size))

      have HY : Hid (inR am[k] 1 5 = true) := Hid.intro (by rw [HK.out]; exact c3)
      obtain ⟨n, hyn⟩ : ∃ n : Nat, y = (n : Int) := ⟨y.toNat, by have := (inR_iff.1 c3).1; omega⟩
      have hn5 : n ≤ 5 := by have := (inR_iff.1 c3).2; omega
      subst hyn
      go_upto_region 9 with (go_at_call 60; refine (l1In_any _ _ _ _).mono ?_; rintro e w' ⟨rfl, hw⟩; have hw := hw.symm; subst hw; rw [c3])
      clear c2
      have hb := below_drew wr
      obtain ⟨M, hM⟩ : ∃ M, M = (am.take k).map nwS := ⟨_, rfl⟩
      have hMl : M.length ≤ 1073741824 := by rw [hM, List.length_map, List.length_take]; omega
      have HS : Hid (NcS w wr v M) := hM ▸ HS
      rw [← hM] at HM
      clear hM
      obtain ⟨xs, S, B, hR⟩ := (HS.out.2.2.1.next hb).open
      obtain ⟨va, vc, hvf⟩ := HS.out.2.2.1.form
      subst hvf
      have HW : Hid (Bx wr.drew w.heap.size [.slice none 0 0, .int .i64 0, .int .i64 0] ∧ Bx wr.drew (w.heap.size + 1) [.slice va M.length vc, .int .i64 0, .int .i64 0] ∧ LsR wr.drew (w.heap.size + 2) (.slice va M.length vc) M xs S B ∧ Below w.heap.size w wr.drew ∧ w.heap.size + 2 ≤ wr.drew.heap.size) := ⟨HS.out.1.next hb, HS.out.2.1.next hb, hR, below_next HS.out.2.2.2.1 hb, HS.out.2.2.2.2⟩
      clear HS hR hb
      refine wp_region_noPanic ?_
      refine wp_region_held_drew (S := fun W => True) (by kernel_rfl) trivial (fun hHeld => ?_)
      obtain ⟨W, hWE⟩ : ∃ x, x = wr.drew := ⟨_, rfl⟩
      rw [← hWE] at HW ⊢
      clear hWE
      refine take_v (v := ?_) 0 ⟨some 23, Op.fieldAddr 29 (Operand.tmp 4) 0, _, _, _, none⟩ rfl (fun _ _ _ h => h) ?_ hHeld ?_
      rotate_left
      · (intro W _; go_simp <;> (try with_reducible rfl))
      refine take_v (v := ?_) 2 ⟨some 25, Op.move (Operand.tmp 6), _, _, _, none⟩ rfl (fun _ _ _ h => h) ?_ hHeld ?_
      rotate_left
      · (intro W _; go_simp <;> (try with_reducible rfl))
      refine ready_two 1 3 ⟨some 24, Op.load 27 (Operand.tmp 23), _, _, _, none⟩ ⟨some 26, Op.makeSlice 40 (Operand.tmp 25) (Operand.tmp 25), _, _, _, none⟩ (by kernel_rfl) rfl rfl (by kernel_rfl) (by kernel_rfl) (fun KC hK => ?_) (fun KC hK => ?_)
      ·
        have s0 := HW.out.2.1.cell 0 rfl
        have s1 := HW.out.2.1.cell 1 rfl
        have s2 := HW.out.2.1.cell 2 rfl
        have sz := HW.out.2.1.2
        go_wp2_with fail
        clear s0 s1 s2 sz
        refine hK.out _ _ trivial (fun hHeld => ?_)
        clear hK KC
        refine ready_call 3 ⟨some 26, Op.makeSlice 40 (Operand.tmp 25) (Operand.tmp 25), _, _, _, none⟩ (by kernel_rfl) rfl (by kernel_rfl) (fun KC hK => ?_)
        refine wp_make_rep (.tmp 25) (.tmp 25) 40 44 (by rfl) i0 Tryd.underlying40 hi0 hz0 hz1 n (by rfl) (by rfl) (by rw [hz2]; omega) (by unfold maxLen; omega) ?_
        intro W2 hO hb hlt2
        obtain ⟨g, hg⟩ : ∃ g, g = W.heap.size := ⟨_, rfl⟩
        rw [← hg] at hO hlt2 ⊢
        have HG : Hid (OwnX W2 (w.heap.size + 2) (.list tyReplica 44) [.slice (some ⟨g, 0, none⟩) n n] (List.replicate n (mkR false 0)) (fun k => k = g) ∧ ¬ S g ∧ g < W2.heap.size ∧ w.heap.size + 2 ≤ g) := ⟨hO.lower (by have := HW.out.2.2.2.2; omega), fun q => by have := (HW.out.2.2.1.z g q).2; omega, hlt2, by have := HW.out.2.2.2.2; omega⟩
        have HW := (show Hid (Bx W2 w.heap.size [.slice none 0 0, .int .i64 0, .int .i64 0] ∧ Bx W2 (w.heap.size + 1) [.slice va M.length vc, .int .i64 0, .int .i64 0] ∧ LsR W2 (w.heap.size + 2) (.slice va M.length vc) M xs S B ∧ Below w.heap.size w W2 ∧ w.heap.size + 2 ≤ W2.heap.size) from ⟨HW.out.1.next hb, HW.out.2.1.next hb, HW.out.2.2.1.next hb, below_next HW.out.2.2.2.1 hb, Nat.le_trans HW.out.2.2.2.2 hb.size⟩)
        clear hO hb hlt2 hg
        refine hK.out _ _ trivial (fun hHeld => ?_)
        clear hK KC
        refine take_v (v := ?_) 4 ⟨some 27, Op.build 42 #[(0, Operand.tmp 26)], _, _, _, none⟩ rfl (fun _ _ _ h => h) ?_ hHeld ?_
        rotate_left
        · (intro W _; go_simp <;> (try with_reducible rfl))
        refine ready_call 5 ⟨some 28, Op.buildSlice 27 1 #[(0, Operand.tmp 27)], _, _, _, none⟩ (by kernel_rfl) rfl (by kernel_rfl) (fun KC hK => ?_)
        go_wp2_with fail
        have hb := Go.Joins.below_alloc1 W2 (.cells #[.slice (some ⟨g, 0, none⟩) n n] 42)
        obtain ⟨W3, hW3⟩ : ∃ x, x = W2.alloc (.cells #[.slice (some ⟨g, 0, none⟩) n n] 42) := ⟨_, rfl⟩
        have HNW := Hid.intro (cells_new W2 [.slice (some ⟨g, 0, none⟩) n n] 42)
        rw [← hW3] at hb HNW ⊢
        obtain ⟨q, hq⟩ : ∃ q, q = W2.heap.size := ⟨_, rfl⟩
        rw [← hq] at HNW ⊢
        have HG := (show Hid (OwnX W3 (w.heap.size + 2) (.list tyReplica 44) [.slice (some ⟨g, 0, none⟩) n n] (List.replicate n (mkR false 0)) (fun k => k = g) ∧ ¬ S g ∧ g < W3.heap.size ∧ w.heap.size + 2 ≤ g) from ⟨HG.out.1.next hb, HG.out.2.1, Nat.lt_of_lt_of_le HG.out.2.2.1 hb.size, HG.out.2.2.2⟩)
        have HW := (show Hid (Bx W3 w.heap.size [.slice none 0 0, .int .i64 0, .int .i64 0] ∧ Bx W3 (w.heap.size + 1) [.slice va M.length vc, .int .i64 0, .int .i64 0] ∧ LsR W3 (w.heap.size + 2) (.slice va M.length vc) M xs S B ∧ Below w.heap.size w W3 ∧ w.heap.size + 2 ≤ W3.heap.size) from ⟨HW.out.1.next hb, HW.out.2.1.next hb, HW.out.2.2.1.next hb, below_next HW.out.2.2.2.1 hb, Nat.le_trans HW.out.2.2.2.2 hb.size⟩)
        clear hb hW3 hq
        refine hK.out _ _ trivial (fun hHeld => ?_)
        clear hK KC
        refine ready_call 6 ⟨some 29, Op.call { callee := Callee.builtin Builtin.append, args := #[Operand.tmp 24, Operand.tmp 28], argTypes := #[27, 27] }, _, _, _, none⟩ (by kernel_rfl) rfl (by kernel_rfl) (fun KC hK => ?_)
        have hsz := HW.out.2.2.2.2
        refine wp_append_at W3 (.tmp 24) (.tmp 28) 27 (by rfl) (w.heap.size + 2) 42 j0 (.agg #[.slice none 0 0]) 1 24 Tryd.underlying27 hj0 hy0 hy1 hy2 rfl (by decide) (.slice va M.length vc) M.length xs (by rfl) HW.out.2.2.1.row ⟨q, 0, none⟩ 1 1 [.slice (some ⟨g, 0, none⟩) n n] (by rfl) rfl HNW.out (by intro u hu; simp at hu; subst hu; rfl) (by unfold maxLen; omega) (by omega) hsz ?_
        intro v9 w9 hown9 hgrow9 hwh9
        have hX : LsX w9 (w.heap.size + 2) v9 ((am.take (k + 1)).map nwS) := by rw [HM.out]; exact HW.out.2.2.1.app HG.out.1 (fun k hk => by have hk : k = g := hk; subst hk; exact ⟨HG.out.2.2.2, HG.out.2.2.1, HG.out.2.1⟩) hown9 hgrow9 hwh9
        obtain ⟨M2, hM2⟩ : ∃ M2, M2 = (am.take (k + 1)).map nwS := ⟨_, rfl⟩
        rw [← hM2] at hX
        have HM2 := Hid.intro hM2
        clear hM2
        have hlo : ∀ k, (Value.slice va M.length vc).ownBlock = some k → w.heap.size + 2 ≤ k := fun k hk => (HW.out.2.2.1.row.lt k hk).1
        have HF : Hid (Bx w9 w.heap.size [.slice none 0 0, .int .i64 0, .int .i64 0] ∧ Bx w9 (w.heap.size + 1) [.slice va M.length vc, .int .i64 0, .int .i64 0] ∧ LsX w9 (w.heap.size + 2) v9 M2 ∧ Below w.heap.size w w9 ∧ w.heap.size + 2 ≤ w9.heap.size) := ⟨HW.out.1.grow hgrow9 (fun e => by have := hlo _ e.symm; omega), HW.out.2.1.grow hgrow9 (fun e => by have := hlo _ e.symm; omega), hX, HW.out.2.2.2.1.grown hgrow9 HW.out.2.2.2.1.size (fun k hk => by have := hlo k hk; omega), Nat.le_trans HW.out.2.2.2.2 hgrow9.size⟩
        obtain ⟨a9, c9, hv9⟩ := hX.form
        subst hv9
        clear hown9 hgrow9 hwh9 hX hlo hsz
        refine hK.out _ _ trivial (fun hHeld => ?_)
        clear hK KC
        refine take_v (v := ?_) 7 ⟨some 30, Op.fieldAddr 29 (Operand.tmp 4) 0, _, _, _, none⟩ rfl (fun _ _ _ h => h) ?_ hHeld ?_
        rotate_left
        · (intro W _; go_simp <;> (try with_reducible rfl))
        refine ready_call 8 ⟨none, Op.store 27 (Operand.tmp 30) (Operand.tmp 29), _, _, _, none⟩ (by kernel_rfl) rfl (by kernel_rfl) (fun KC hK => ?_)
        have r0 := HF.out.2.1.cell 0 rfl
        have r1 := HF.out.2.1.cell 1 rfl
        have r2 := HF.out.2.1.cell 2 rfl
        have rz := HF.out.2.1.2
        have g0 := HF.out.2.1.frz 0 (by simp)
        go_wp2_with fail
        clear r0 r1 r2 rz g0
        refine hK.out _ _ trivial (fun hHeld => ?_)
        clear hK KC
        refine wpAnyH_done (by kernel_rfl) ?_ _
        refine NoPanic.normal ?_
        clear hHeld
        go_wp2
        go_roundw
        case rel => exact ⟨k + 1, _, by omega, by go_num, mem_take_succ hlt HO.out HY.out, by rw [← HM2.out]; exact NcS.put HF.out⟩
        case measure => simp [intOf]; omega
      ·
        refine wp_make_rep (.tmp 25) (.tmp 25) 40 44 (by rfl) i0 Tryd.underlying40 hi0 hz0 hz1 n (by rfl) (by rfl) (by rw [hz2]; omega) (by unfold maxLen; omega) ?_
        intro W2 hO hb hlt2
        obtain ⟨g, hg⟩ : ∃ g, g = W.heap.size := ⟨_, rfl⟩
        rw [← hg] at hO hlt2 ⊢
        have HG : Hid (OwnX W2 (w.heap.size + 2) (.list tyReplica 44) [.slice (some ⟨g, 0, none⟩) n n] (List.replicate n (mkR false 0)) (fun k => k = g) ∧ ¬ S g ∧ g < W2.heap.size ∧ w.heap.size + 2 ≤ g) := ⟨hO.lower (by have := HW.out.2.2.2.2; omega), fun q => by have := (HW.out.2.2.1.z g q).2; omega, hlt2, by have := HW.out.2.2.2.2; omega⟩
        have HW := (show Hid (Bx W2 w.heap.size [.slice none 0 0, .int .i64 0, .int .i64 0] ∧ Bx W2 (w.heap.size + 1) [.slice va M.length vc, .int .i64 0, .int .i64 0] ∧ LsR W2 (w.heap.size + 2) (.slice va M.length vc) M xs S B ∧ Below w.heap.size w W2 ∧ w.heap.size + 2 ≤ W2.heap.size) from ⟨HW.out.1.next hb, HW.out.2.1.next hb, HW.out.2.2.1.next hb, below_next HW.out.2.2.2.1 hb, Nat.le_trans HW.out.2.2.2.2 hb.size⟩)
        clear hO hb hlt2 hg
        refine hK.out _ _ trivial (fun hHeld => ?_)
        clear hK KC
        refine take_v (v := ?_) 4 ⟨some 27, Op.build 42 #[(0, Operand.tmp 26)], _, _, _, none⟩ rfl (fun _ _ _ h => h) ?_ hHeld ?_
        rotate_left
        · (intro W _; go_simp <;> (try with_reducible rfl))
        refine ready_two 1 5 ⟨some 24, Op.load 27 (Operand.tmp 23), _, _, _, none⟩ ⟨some 28, Op.buildSlice 27 1 #[(0, Operand.tmp 27)], _, _, _, none⟩ (by kernel_rfl) rfl rfl (by kernel_rfl) (by kernel_rfl) (fun KC hK => ?_) (fun KC hK => ?_)
        ·
          have s0 := HW.out.2.1.cell 0 rfl
          have s1 := HW.out.2.1.cell 1 rfl
          have s2 := HW.out.2.1.cell 2 rfl
          have sz := HW.out.2.1.2
          go_wp2_with fail
          clear s0 s1 s2 sz
          refine hK.out _ _ trivial (fun hHeld => ?_)
          clear hK KC
          refine ready_call 5 ⟨some 28, Op.buildSlice 27 1 #[(0, Operand.tmp 27)], _, _, _, none⟩ (by kernel_rfl) rfl (by kernel_rfl) (fun KC hK => ?_)
          go_wp2_with fail
          have hb := Go.Joins.below_alloc1 W2 (.cells #[.slice (some ⟨g, 0, none⟩) n n] 42)
          obtain ⟨W3, hW3⟩ : ∃ x, x = W2.alloc (.cells #[.slice (some ⟨g, 0, none⟩) n n] 42) := ⟨_, rfl⟩
          have HNW := Hid.intro (cells_new W2 [.slice (some ⟨g, 0, none⟩) n n] 42)
          rw [← hW3] at hb HNW ⊢
          obtain ⟨q, hq⟩ : ∃ q, q = W2.heap.size := ⟨_, rfl⟩
          rw [← hq] at HNW ⊢
          have HG := (show Hid (OwnX W3 (w.heap.size + 2) (.list tyReplica 44) [.slice (some ⟨g, 0, none⟩) n n] (List.replicate n (mkR false 0)) (fun k => k = g) ∧ ¬ S g ∧ g < W3.heap.size ∧ w.heap.size + 2 ≤ g) from ⟨HG.out.1.next hb, HG.out.2.1, Nat.lt_of_lt_of_le HG.out.2.2.1 hb.size, HG.out.2.2.2⟩)
          have HW := (show Hid (Bx W3 w.heap.size [.slice none 0 0, .int .i64 0, .int .i64 0] ∧ Bx W3 (w.heap.size + 1) [.slice va M.length vc, .int .i64 0, .int .i64 0] ∧ LsR W3 (w.heap.size + 2) (.slice va M.length vc) M xs S B ∧ Below w.heap.size w W3 ∧ w.heap.size + 2 ≤ W3.heap.size) from ⟨HW.out.1.next hb, HW.out.2.1.next hb, HW.out.2.2.1.next hb, below_next HW.out.2.2.2.1 hb, Nat.le_trans HW.out.2.2.2.2 hb.size⟩)
          clear hb hW3 hq
          refine hK.out _ _ trivial (fun hHeld => ?_)
          clear hK KC
          refine ready_call 6 ⟨some 29, Op.call { callee := Callee.builtin Builtin.append, args := #[Operand.tmp 24, Operand.tmp 28], argTypes := #[27, 27] }, _, _, _, none⟩ (by kernel_rfl) rfl (by kernel_rfl) (fun KC hK => ?_)
          have hsz := HW.out.2.2.2.2
          refine wp_append_at W3 (.tmp 24) (.tmp 28) 27 (by rfl) (w.heap.size + 2) 42 j0 (.agg #[.slice none 0 0]) 1 24 Tryd.underlying27 hj0 hy0 hy1 hy2 rfl (by decide) (.slice va M.length vc) M.length xs (by rfl) HW.out.2.2.1.row ⟨q, 0, none⟩ 1 1 [.slice (some ⟨g, 0, none⟩) n n] (by rfl) rfl HNW.out (by intro u hu; simp at hu; subst hu; rfl) (by unfold maxLen; omega) (by omega) hsz ?_
          intro v9 w9 hown9 hgrow9 hwh9
          have hX : LsX w9 (w.heap.size + 2) v9 ((am.take (k + 1)).map nwS) := by rw [HM.out]; exact HW.out.2.2.1.app HG.out.1 (fun k hk => by have hk : k = g := hk; subst hk; exact ⟨HG.out.2.2.2, HG.out.2.2.1, HG.out.2.1⟩) hown9 hgrow9 hwh9
          obtain ⟨M2, hM2⟩ : ∃ M2, M2 = (am.take (k + 1)).map nwS := ⟨_, rfl⟩
          rw [← hM2] at hX
          have HM2 := Hid.intro hM2
          clear hM2
          have hlo : ∀ k, (Value.slice va M.length vc).ownBlock = some k → w.heap.size + 2 ≤ k := fun k hk => (HW.out.2.2.1.row.lt k hk).1
          have HF : Hid (Bx w9 w.heap.size [.slice none 0 0, .int .i64 0, .int .i64 0] ∧ Bx w9 (w.heap.size + 1) [.slice va M.length vc, .int .i64 0, .int .i64 0] ∧ LsX w9 (w.heap.size + 2) v9 M2 ∧ Below w.heap.size w w9 ∧ w.heap.size + 2 ≤ w9.heap.size) := ⟨HW.out.1.grow hgrow9 (fun e => by have := hlo _ e.symm; omega), HW.out.2.1.grow hgrow9 (fun e => by have := hlo _ e.symm; omega), hX, HW.out.2.2.2.1.grown hgrow9 HW.out.2.2.2.1.size (fun k hk => by have := hlo k hk; omega), Nat.le_trans HW.out.2.2.2.2 hgrow9.size⟩
          obtain ⟨a9, c9, hv9⟩ := hX.form
          subst hv9
          clear hown9 hgrow9 hwh9 hX hlo hsz
          refine hK.out _ _ trivial (fun hHeld => ?_)
          clear hK KC
          refine take_v (v := ?_) 7 ⟨some 30, Op.fieldAddr 29 (Operand.tmp 4) 0, _, _, _, none⟩ rfl (fun _ _ _ h => h) ?_ hHeld ?_
          rotate_left
          · (intro W _; go_simp <;> (try with_reducible rfl))
          refine ready_call 8 ⟨none, Op.store 27 (Operand.tmp 30) (Operand.tmp 29), _, _, _, none⟩ (by kernel_rfl) rfl (by kernel_rfl) (fun KC hK => ?_)
          have r0 := HF.out.2.1.cell 0 rfl
          have r1 := HF.out.2.1.cell 1 rfl
          have r2 := HF.out.2.1.cell 2 rfl
          have rz := HF.out.2.1.2
          have g0 := HF.out.2.1.frz 0 (by simp)
          go_wp2_with fail
          clear r0 r1 r2 rz g0
          refine hK.out _ _ trivial (fun hHeld => ?_)
          clear hK KC
          refine wpAnyH_done (by kernel_rfl) ?_ _
          refine NoPanic.normal ?_
          clear hHeld
          go_wp2
          go_roundw
          case rel => exact ⟨k + 1, _, by omega, by go_num, mem_take_succ hlt HO.out HY.out, by rw [← HM2.out]; exact NcS.put HF.out⟩
          case measure => simp [intOf]; omega
        ·
          go_wp2_with fail
          have hb := Go.Joins.below_alloc1 W2 (.cells #[.slice (some ⟨g, 0, none⟩) n n] 42)
          obtain ⟨W3, hW3⟩ : ∃ x, x = W2.alloc (.cells #[.slice (some ⟨g, 0, none⟩) n n] 42) := ⟨_, rfl⟩
          have HNW := Hid.intro (cells_new W2 [.slice (some ⟨g, 0, none⟩) n n] 42)
          rw [← hW3] at hb HNW ⊢
          obtain ⟨q, hq⟩ : ∃ q, q = W2.heap.size := ⟨_, rfl⟩
          rw [← hq] at HNW ⊢
          have HG := (show Hid (OwnX W3 (w.heap.size + 2) (.list tyReplica 44) [.slice (some ⟨g, 0, none⟩) n n] (List.replicate n (mkR false 0)) (fun k => k = g) ∧ ¬ S g ∧ g < W3.heap.size ∧ w.heap.size + 2 ≤ g) from ⟨HG.out.1.next hb, HG.out.2.1, Nat.lt_of_lt_of_le HG.out.2.2.1 hb.size, HG.out.2.2.2⟩)
          have HW := (show Hid (Bx W3 w.heap.size [.slice none 0 0, .int .i64 0, .int .i64 0] ∧ Bx W3 (w.heap.size + 1) [.slice va M.length vc, .int .i64 0, .int .i64 0] ∧ LsR W3 (w.heap.size + 2) (.slice va M.length vc) M xs S B ∧ Below w.heap.size w W3 ∧ w.heap.size + 2 ≤ W3.heap.size) from ⟨HW.out.1.next hb, HW.out.2.1.next hb, HW.out.2.2.1.next hb, below_next HW.out.2.2.2.1 hb, Nat.le_trans HW.out.2.2.2.2 hb.size⟩)
          clear hb hW3 hq
          refine hK.out _ _ trivial (fun hHeld => ?_)
          clear hK KC
          refine ready_call 1 ⟨some 24, Op.load 27 (Operand.tmp 23), _, _, _, none⟩ (by kernel_rfl) rfl (by kernel_rfl) (fun KC hK => ?_)
          have s0 := HW.out.2.1.cell 0 rfl
          have s1 := HW.out.2.1.cell 1 rfl
          have s2 := HW.out.2.1.cell 2 rfl
          have sz := HW.out.2.1.2
          go_wp2_with fail
          clear s0 s1 s2 sz
          refine hK.out _ _ trivial (fun hHeld => ?_)
          clear hK KC
          refine ready_call 6 ⟨some 29, Op.call { callee := Callee.builtin Builtin.append, args := #[Operand.tmp 24, Operand.tmp 28], argTypes := #[27, 27] }, _, _, _, none⟩ (by kernel_rfl) rfl (by kernel_rfl) (fun KC hK => ?_)
          have hsz := HW.out.2.2.2.2
          refine wp_append_at W3 (.tmp 24) (.tmp 28) 27 (by rfl) (w.heap.size + 2) 42 j0 (.agg #[.slice none 0 0]) 1 24 Tryd.underlying27 hj0 hy0 hy1 hy2 rfl (by decide) (.slice va M.length vc) M.length xs (by rfl) HW.out.2.2.1.row ⟨q, 0, none⟩ 1 1 [.slice (some ⟨g, 0, none⟩) n n] (by rfl) rfl HNW.out (by intro u hu; simp at hu; subst hu; rfl) (by unfold maxLen; omega) (by omega) hsz ?_
          intro v9 w9 hown9 hgrow9 hwh9
          have hX : LsX w9 (w.heap.size + 2) v9 ((am.take (k + 1)).map nwS) := by rw [HM.out]; exact HW.out.2.2.1.app HG.out.1 (fun k hk => by have hk : k = g := hk; subst hk; exact ⟨HG.out.2.2.2, HG.out.2.2.1, HG.out.2.1⟩) hown9 hgrow9 hwh9
          obtain ⟨M2, hM2⟩ : ∃ M2, M2 = (am.take (k + 1)).map nwS := ⟨_, rfl⟩
          rw [← hM2] at hX
          have HM2 := Hid.intro hM2
          clear hM2
          have hlo : ∀ k, (Value.slice va M.length vc).ownBlock = some k → w.heap.size + 2 ≤ k := fun k hk => (HW.out.2.2.1.row.lt k hk).1
          have HF : Hid (Bx w9 w.heap.size [.slice none 0 0, .int .i64 0, .int .i64 0] ∧ Bx w9 (w.heap.size + 1) [.slice va M.length vc, .int .i64 0, .int .i64 0] ∧ LsX w9 (w.heap.size + 2) v9 M2 ∧ Below w.heap.size w w9 ∧ w.heap.size + 2 ≤ w9.heap.size) := ⟨HW.out.1.grow hgrow9 (fun e => by have := hlo _ e.symm; omega), HW.out.2.1.grow hgrow9 (fun e => by have := hlo _ e.symm; omega), hX, HW.out.2.2.2.1.grown hgrow9 HW.out.2.2.2.1.size (fun k hk => by have := hlo k hk; omega), Nat.le_trans HW.out.2.2.2.2 hgrow9.size⟩
          obtain ⟨a9, c9, hv9⟩ := hX.form
          subst hv9
          clear hown9 hgrow9 hwh9 hX hlo hsz
          refine hK.out _ _ trivial (fun hHeld => ?_)
          clear hK KC
          refine take_v (v := ?_) 7 ⟨some 30, Op.fieldAddr 29 (Operand.tmp 4) 0, _, _, _, none⟩ rfl (fun _ _ _ h => h) ?_ hHeld ?_
          rotate_left
          · (intro W _; go_simp <;> (try with_reducible rfl))
          refine ready_call 8 ⟨none, Op.store 27 (Operand.tmp 30) (Operand.tmp 29), _, _, _, none⟩ (by kernel_rfl) rfl (by kernel_rfl) (fun KC hK => ?_)
          have r0 := HF.out.2.1.cell 0 rfl
          have r1 := HF.out.2.1.cell 1 rfl
          have r2 := HF.out.2.1.cell 2 rfl
          have rz := HF.out.2.1.2
          have g0 := HF.out.2.1.frz 0 (by simp)
          go_wp2_with fail
          clear r0 r1 r2 rz g0
          refine hK.out _ _ trivial (fun hHeld => ?_)
          clear hK KC
          refine wpAnyH_done (by kernel_rfl) ?_ _
          refine NoPanic.normal ?_
          clear hHeld
          go_wp2
          go_roundw
          case rel => exact ⟨k + 1, _, by omega, by go_num, mem_take_succ hlt HO.out HY.out, by rw [← HM2.out]; exact NcS.put HF.out⟩
          case measure => simp [intOf]; omega
    · have hkn : k = am.length := by omega
      have e1 : nwOk am = true := by unfold nwOk; rw [c0, all_yes (by have := HO.out; rwa [hkn, List.take_length] at this)]; rfl
      have HN : Hid (nwC am = am.map nwS ∧ nwOk am = true) := ⟨nw_some e1, e1⟩
      have HS : Hid (NcS w wr v (am.map nwS)) := Hid.intro (by have := HS.out; rwa [hkn, List.take_length] at this)
      clear e1 hkn
      obtain ⟨va, vc, hvf⟩ := HS.out.2.2.1.form
      subst hvf
      have z0 := HS.out.1.cell 0 rfl
      have zf0 := HS.out.1.frz 0 (by simp)
      have z1 := HS.out.1.cell 1 rfl
      have zf1 := HS.out.1.frz 1 (by simp)
      have z2 := HS.out.1.cell 2 rfl
      have zf2 := HS.out.1.frz 2 (by simp)
      have zz := HS.out.1.2
      have r0 := HS.out.2.1.cell 0 rfl
      have r1 := HS.out.2.1.cell 1 rfl
      have r2 := HS.out.2.1.cell 2 rfl
      have rz := HS.out.2.1.2
      go_wp2
      refine bodyPost_ret (v := .tuple #[.agg #[.slice va (am.map nwS).length vc, .int .i64 0, .int .i64 0], .bool true]) (by simp [results, Tryd.results37, go_sem, *]) rfl ?_
      rw [HN.out.1, HN.out.2]
      exact HS.out.done (set3 _ _ _ _ _)

end Go.Proofs.YtkpobihpcnoemaaDoor
