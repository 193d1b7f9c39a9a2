/- Commits: spec.l15Own. Written by tools/mkCqO.py. -/
import Derived.Test.YtkpobihpcnoemaaDoorCpE
namespace Go.Proofs.YtkpobihpcnoemaaDoor
open Go.RowKit
set_option linter.unusedVariables false
set_option linter.unusedSimpArgs false

def OwS (w wr : World) (V0 : Value) (v : Value) (l : List Shd) (dr rc : Int) : Prop :=
  Bx wr w.heap.size [V0, .int .i64 dr, .int .i64 rc] ∧ Bx wr (w.heap.size + 1) [.slice none 0 0, .int .i64 0, .int .i64 0] ∧ LsX wr (w.heap.size + 2) v l ∧ Below w.heap.size w wr ∧ w.heap.size + 2 ≤ wr.heap.size
theorem OwS.done {w wr W : World} {V0 v : Value} {l : List Shd} {dr rc : Int} (h : OwS w wr V0 v l dr rc) (hW : TurnS (fun k => k = w.heap.size ∨ k = w.heap.size + 1) wr W) : ToX tyCommit (l, dr, rc, ()) w (.returned (.agg #[v, .int .i64 dr, .int .i64 rc])) W := by
  obtain ⟨h1, h2, h3, h4, h5⟩ := h
  have hl := h3.turn hW (fun k hk => by rcases hk with hk | hk <;> omega)
  exact ⟨[v, .int .i64 dr, .int .i64 rc], rfl, ((hl.commit dr rc).lower (by omega)).mono (fun k hk => by simp only [Btw] at hk ⊢; omega), h4.trans (hW.below (fun k hk => by rcases hk with hk | hk <;> omega) h4.size)⟩

set_option maxRecDepth 100000 in
set_option maxHeartbeats 4000000 in
theorem l15Own_n (cs : List Value) (ss : List Shd) (dr rc : Int) (w : World) (hz : szD shCommit (ss, dr, rc, ()) ≤ 1073741824) (h : Lies w shCommit cs (ss, dr, rc, ())) :
    Calls Tryd.prog 39 #[.agg cs.toArray] w (ToX tyCommit (ss, dr, rc, ()) w) := by
  obtain ⟨a1, k1, rfl, h1⟩ := lies_Commit h
  obtain ⟨hn, hr⟩ := cm_sizes hz
  have HL := Hid.intro h1
  have HR := Hid.intro hr
  clear h h1 hr hz
  obtain ⟨j0, hj0, hy0, hy1, hy2⟩ := info_parts inf_Shard
  obtain ⟨i0, hi0, hz0, hz1, hz2⟩ := info_parts inf_Replica
  obtain ⟨w0, hw0⟩ : ∃ x, x = (w.alloc (.cells #[.slice a1 ss.length k1, .int .i64 dr, .int .i64 rc] 29)).alloc (.cells #[.slice none 0 0, .int .i64 0, .int .i64 0] 29) := ⟨_, rfl⟩
  obtain ⟨V0, hV0⟩ : ∃ V, V = Value.slice a1 ss.length k1 := ⟨_, rfl⟩
  have HI : Hid (OwS w w0 V0 (.slice none 0 0) (ss.take 0) dr rc) := Hid.intro (by
    rw [hV0]
    exact ⟨hw0 ▸ (Bx.new w [_, _, _] _).alloc _, hw0 ▸ Bx.newAt (by simp), LsX.nil, hw0 ▸ ((Below.refl _ _).alloc (Nat.le_refl _) _).alloc (by simp) _, by rw [hw0]; simp⟩)
  have s0 : w0.cell? ⟨w.heap.size, 0, none⟩ = some (.slice a1 ss.length k1) := by have := HI.out.1.cell 0 rfl; rwa [hV0] at this
  have sz := HI.out.1.2
  go_enter Tryd.func39, Tryd.ntmps39
  go_upto_region 1 with fail
  rw [← hw0]
  clear hw0
  go_wp2
  clear s0 sz hV0
  go_loopw [9, 3] (fun i vl wr => ∃ (k : Nat) (vp : Value), k ≤ ss.length ∧ i = .int .i64 k ∧ vl = vp ∧ OwS w wr V0 vp (ss.take k) dr rc) (fun i _ _ => ss.length - (intOf i).toNat)
  case atStart => exact ⟨0, _, Nat.zero_le _, rfl, rfl, HI.out⟩
  case round =>
    obtain ⟨k, vp, hk, rfl, hvl, hC⟩ := hrel
    have hvl := hvl.symm
    subst hvl
    clear HI
    by_cases hlt : k < ss.length
    · have hlt' : (k : Int) < (ss.length : Int) := by omega
      have HLE : Hid (Lies wr (.list shShard) [.slice a1 ss.length k1] ss) := HL.out.next hC.2.2.2.1
      obtain ⟨xg, xoff, xgo, xgs, xec, xel, xhec, xle⟩ := Lies.elem (HLE.out) hlt
      subst xgo
      rcases xX : ss[k] with ⟨x0, ⟨⟩⟩
      rw [xX] at xle
      have xH : Hid (ss[k] = (x0, ())) := xX
      clear xX
      obtain ⟨xa1, xk1, xev, xq1⟩ := lies_Shard xle
      subst xev
      have xc0 : wr.cell? ⟨xg, xoff + k, none⟩ = some (.slice xa1 x0.length xk1) := (by have := xhec 0 (by simp); simpa [shShard, Sh.c] using this)
      clear xhec xel xle
      have HM : Hid (ss.take (k + 1) = ss.take k ++ [mkS x0]) := Hid.intro (by rw [List.take_succ_eq_append_getElem hlt, xH.out]; rfl)
      have hxn : x0.length ≤ 1073741824 := by have := HR.out _ (List.getElem_mem hlt); rw [xH.out] at this; exact this
      have hbV : 0 + x0.length ≤ maxLen := by unfold maxLen; omega
      have hcV : (0 + x0.length) * 16 ≤ 140737488355328 := by omega
      obtain ⟨M, hM⟩ : ∃ M, M = ss.take k := ⟨_, rfl⟩
      have hMl : M.length ≤ 1073741824 := by rw [hM, List.length_take]; omega
      rw [← hM] at hC HM
      clear hM
      obtain ⟨va, vc, hvf⟩ := hC.2.2.1.form
      subst hvf
      obtain ⟨xs, S, B, hR⟩ := hC.2.2.1.open
      have HC : Hid (OwS w wr V0 (.slice va M.length vc) M dr rc ∧ LsR wr (w.heap.size + 2) (.slice va M.length vc) M xs S B) := ⟨hC, hR⟩
      obtain ⟨W1, hW1⟩ : ∃ x, x = wr.alloc (.cells #[.slice xa1 x0.length xk1] 42) := ⟨_, rfl⟩
      have hW1z : W1.heap.size = wr.heap.size + 1 := by rw [hW1]; simp
      have HW1 : Hid (Bx W1 wr.heap.size [.slice xa1 x0.length xk1] ∧ Below wr.heap.size wr W1 ∧ ApS tyReplica 44 W1 (W1.alloc (.cells #[] 44)) (.slice (some ⟨wr.heap.size + 1, 0, none⟩) 0 0) [] ∧ W1.heap.size = wr.heap.size + 1) := ⟨hW1 ▸ Bx.new wr [_] _, hW1 ▸ Go.Joins.below_alloc1 _ _, by have := ApS.made (e := tyReplica) (t := 44) (w := W1) rfl; rwa [hW1z] at this, hW1z⟩
      have HLX : Hid (Lies wr (.list shReplica) [.slice xa1 x0.length xk1] x0) := xq1
      clear HLE hC hR xq1 hW1z
      have G0 := (HW1.out.1.next HW1.out.2.2.1.2)
      have p0 : (W1.alloc (.cells #[] 44)).cell? ⟨wr.heap.size, 0, none⟩ = some (.slice xa1 x0.length xk1) := G0.cell 0 rfl
      have pz : wr.heap.size < (W1.alloc (.cells #[] 44)).heap.size := G0.2
      clear G0
      go_wp2_with (first
        | (at_builtin; rw [← hW1]; refine wpList_appx rfl (.tmp 14) (.tmp 16) 40 44 rfl i0 (.agg #[.bool false, .int .i64 0]) 16 W1.heap.size tyReplica rfl Tryd.underlying40 hi0 hz0 hz1 hz2 rfl (by decide) (.slice (some ⟨wr.heap.size + 1, 0, none⟩) 0 0) [] x0 _ rfl HW1.out.2.2.1.1 xa1 xk1 rfl (HLX.out.next (below_next HW1.out.2.1 HW1.out.2.2.1.2)) hbV hcV HW1.out.2.2.1.2.size ?_; intro v1 w3 hO3 hg3 hwh3; have H3 : Hid (ApS tyReplica 44 W1 w3 v1 x0) := Hid.intro (ApS.app (e := tyReplica) (l2 := x0) rfl HW1.out.2.2.1 hO3 hg3); obtain ⟨va1, vc1, hv1⟩ := OwnX.vform H3.out.1; (have hv1 : v1 = .slice va1 (List.length (α := Rpl) x0) vc1 := hv1); subst hv1; have HB7 : Hid (Below wr.heap.size wr (w3.alloc (.cells #[.slice va1 (List.length (α := Rpl) x0) vc1] 42))) := Hid.intro (below_next (HW1.out.2.1.trans (H3.out.2.mono (by have := HW1.out.2.2.2; omega))) (Go.Joins.below_alloc1 _ _)); have HNW := Hid.intro (cells_new w3 [.slice va1 (List.length (α := Rpl) x0) vc1] 42); clear hO3 hg3 hwh3 p0 pz)
        | (at_builtin; refine wpList_append_own_at _ rfl (.tmp 13) (.tmp 19) 27 rfl (w.heap.size + 2) 42 j0 (.agg #[.slice none 0 0]) 1 24 Tryd.underlying27 hj0 hy0 hy1 hy2 rfl (by decide) (.slice va M.length vc) M.length xs rfl (ownsRow_next HC.out.2.row HB7.out) ⟨w3.heap.size, 0, none⟩ 1 1 [.slice va1 (List.length (α := Rpl) x0) vc1] rfl rfl HNW.out (by intro u hu; simp at hu; subst hu; rfl) (by unfold maxLen; omega) (by omega) (Nat.le_trans HC.out.1.2.2.2.2 HB7.out.size) ?_; intro v9 w9 hown9 hgrow9 hnil9 hwh9)
        | go_in)
      have HF : Hid (OwS w w9 V0 v9 (ss.take (k + 1)) dr rc) := Hid.intro (by
        have z1 := HW1.out.2.2.2
        have z3 := H3.out.2.size
        have z5 := HC.out.1.2.2.2.2
        have hl : ∀ k, (Value.slice va M.length vc).ownBlock = some k → w.heap.size + 2 ≤ k := fun k hk => (HC.out.2.row.lt k hk).1
        have hB := below_next HC.out.1.2.2.2.1 HB7.out
        refine ⟨(HC.out.1.1.next HB7.out).grow hgrow9 (fun e => by have := hl _ e.symm; omega), (HC.out.1.2.1.next HB7.out).grow hgrow9 (fun e => by have := hl _ e.symm; omega), ?_, hB.grown hgrow9 hB.size (fun k hk => by have := hl k hk; omega), by have := HB7.out.size; have := hgrow9.size; omega⟩
        rw [HM.out]
        exact (HC.out.2.next HB7.out).app ((H3.out.1.next (Go.Joins.below_alloc1 _ _)).lower (by omega)) (fun k hk => by
          simp only [Btw] at hk
          refine ⟨by omega, by simp; omega, fun q => ?_⟩
          have := (HC.out.2.z k q).2
          omega) hown9 hgrow9 hwh9)
      clear hown9 hgrow9 hnil9 hwh9 H3 HB7 HNW HW1
      go_roundw
      case rel => exact ⟨k + 1, v9, by omega, by go_num, rfl, HF.out⟩
      case measure => simp [intOf]; omega
    · have hkn : k = ss.length := by omega
      have HC : Hid (OwS w wr V0 vp ss dr rc) := Hid.intro (by have := hC; rwa [hkn, List.take_length] at this)
      obtain ⟨va, vc, hvf⟩ := HC.out.2.2.1.form
      subst hvf
      have b0 := HC.out.1.cell 0 rfl
      have b1 := HC.out.1.cell 1 rfl
      have b2 := HC.out.1.cell 2 rfl
      have bz := HC.out.1.2
      have bf := HC.out.1.frz 0 (by simp)
      have r0 := HC.out.2.1.cell 0 rfl
      have r1 := HC.out.2.1.cell 1 rfl
      have r2 := HC.out.2.1.cell 2 rfl
      have rz := HC.out.2.1.2
      have f0 := HC.out.2.1.frz 0 (by simp)
      have f1 := HC.out.2.1.frz 1 (by simp)
      have f2 := HC.out.2.1.frz 2 (by simp)
      clear hC hkn
      go_wp2
      exact bodyPost_ret (v := .agg #[.slice va ss.length vc, .int .i64 dr, .int .i64 rc]) (by simp [results, Tryd.results39, go_sem, *]) rfl (HC.out.done (((TurnS.refl (fun k => k = w.heap.size ∨ k = w.heap.size + 1) wr).set (S := fun k => k = w.heap.size ∨ k = w.heap.size + 1) (p := ⟨w.heap.size, 0, none⟩) (Or.inl rfl) _).trans ((set3 _ (w.heap.size + 1) _ _ _).wide (fun k e => Or.inr e))))
end Go.Proofs.YtkpobihpcnoemaaDoor
