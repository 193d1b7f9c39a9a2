/- Commits: spec.l15Step, a replica's steps, not decided yet. Written by tools/mkCqS.py. -/
import Derived.Test.YtkpobihpcnoemaaDoorCqS
import Derived.Test.YtkpobihpcnoemaaDoorCpI
namespace Go.Proofs.YtkpobihpcnoemaaDoor
open Go.RowKit
set_option linter.unusedVariables false
set_option linter.unusedSimpArgs false


set_option maxRecDepth 100000 in
set_option maxHeartbeats 4000000 in
theorem rep5_o (lo up : Nat) (v : Value) (ss : List Shd) (k i j : Int) (w : World) (hn : ss.length ≤ 1000) (hr : ∀ s ∈ ss, (srs s).length ≤ 1000) (hk3 : ¬ k = 3) (hk4 : ¬ k = 4) (hk6 : ¬ k = 6) (hx : LsU w lo up v ss) :
    Calls Tryd.prog 38 #[.agg #[v, .int .i64 0, .int .i64 0], .agg #[.int .i64 k, .int .i64 i, .int .i64 j]] w (L5P lo up v (stC ss 0 0 k i j) w) := by
  obtain ⟨va, vc, hv⟩ := hx.form
  subst hv
  obtain ⟨w0, hw0⟩ : ∃ x, x = ((w.alloc (.cells #[.slice va ss.length vc, .int .i64 0, .int .i64 0] 29)).alloc (.cells #[.int .i64 k, .int .i64 i, .int .i64 j] 48)).alloc (.cells #[.slice none 0 0, .int .i64 0, .int .i64 0] 29) := ⟨_, rfl⟩
  have HC : Hid (L5S w lo up (.slice va ss.length vc) ss 0 0 k i j w0) := Hid.intro (hw0 ▸ L5S.start hx _ _ _)
  have HR := Hid.intro hr
  clear hx hr
  go_enter Tryd.func38, Tryd.ntmps38
  go_upto_region 1 with fail
  rw [← hw0]
  clear hw0
  have HS : Hid (stC ss 0 0 k i j = stR ss 0 0 k i j) := Hid.intro (by unfold stC; rw [if_neg hk3, if_neg hk4, if_neg hk6])
  have q3 : (k == 3) = false := by simpa using hk3
  have q4 : (k == 4) = false := by simpa using hk4
  have q6 : (k == 6) = false := by simpa using hk6
  clear hk3 hk4 hk6
  have hwr : IntKind.i64.wrap ((ss.length : Int) - 1) = (ss.length : Int) - 1 := w64f (by omega) (by omega)
  have s0 := (HC.out.2.1).cell 0 rfl; have s1 := (HC.out.2.1).cell 1 rfl; have s2 := (HC.out.2.1).cell 2 rfl; have sz := (HC.out.2.1).2
  have u0 := (HC.out.1.1.1).cell 0 rfl; have u1 := (HC.out.1.1.1).cell 1 rfl; have u2 := (HC.out.1.1.1).cell 2 rfl; have uz := (HC.out.1.1.1).2
  have uf1 := HC.out.1.1.1.frz 1 (by simp)
  have uf2 := HC.out.1.1.1.frz 2 (by simp)
  have z0 := (HC.out.2.2.1).cell 0 rfl; have z1 := (HC.out.2.2.1).cell 1 rfl; have z2 := (HC.out.2.2.1).cell 2 rfl; have zz := (HC.out.2.2.1).2
  have zf0 := HC.out.2.2.1.frz 0 (by simp)
  have zf1 := HC.out.2.2.1.frz 1 (by simp)
  have zf2 := HC.out.2.2.1.frz 2 (by simp)
  have zz := HC.out.2.2.1.2
  go_upto_region 20 with fail
  clear s0 s1 s2 sz u0 u1 u2 uz uf1 uf2 z0 z1 z2 zf0 zf1 zf2 zz
  cases hir : inR i 0 ((ss.length : Int) - 1)
  case false =>
    have HE : Hid (stC ss 0 0 k i j = none) := Hid.intro (by rw [HS.out]; exact stR_i hir)
    refine wp_region_noPanic ?_
    refine wp_region_held_drew (S := fun W => Below w0.heap.size w0 W) (by kernel_rfl) (below_drew _) (fun hHeld => ?_)
    have hbW := below_drew w0
    obtain ⟨W, hWE⟩ : ∃ x, x = w0.drew := ⟨_, rfl⟩
    rw [← hWE] at hbW hHeld ⊢
    clear hWE
    have HD := Hid.intro (L5S.next HC.out hbW)
    refine take_v (v := ?_) 0 ⟨some 59, Op.fieldAddr 48 (Operand.tmp 3) 1, _, _, _, none⟩ rfl (fun _ _ _ h => h) ?_ hHeld ?_
    rotate_left
    · (intro W _; go_simp <;> (try with_reducible rfl))
    refine take_v (v := ?_) 1 ⟨some 60, Op.load 3 (Operand.tmp 59), _, _, _, none⟩ rfl (fun _ _ _ h => h) ?_ hHeld ?_
    rotate_left
    · (intro W hSW; (have s0 := (HC.out.2.1.next hSW).cell 0 rfl; have s1 := (HC.out.2.1.next hSW).cell 1 rfl; have s2 := (HC.out.2.1.next hSW).cell 2 rfl; have sz := (HC.out.2.1.next hSW).2; have u0 := (HC.out.1.1.1.next hSW).cell 0 rfl; have u1 := (HC.out.1.1.1.next hSW).cell 1 rfl; have u2 := (HC.out.1.1.1.next hSW).cell 2 rfl; have uz := (HC.out.1.1.1.next hSW).2); go_simp <;> (try with_reducible rfl))
    refine take_v (v := ?_) 2 ⟨some 61, Op.fieldAddr 29 (Operand.tmp 2) 0, _, _, _, none⟩ rfl (fun _ _ _ h => h) ?_ hHeld ?_
    rotate_left
    · (intro W _; go_simp <;> (try with_reducible rfl))
    refine take_v (v := ?_) 3 ⟨some 62, Op.load 27 (Operand.tmp 61), _, _, _, none⟩ rfl (fun _ _ _ h => h) ?_ hHeld ?_
    rotate_left
    · (intro W hSW; (have s0 := (HC.out.2.1.next hSW).cell 0 rfl; have s1 := (HC.out.2.1.next hSW).cell 1 rfl; have s2 := (HC.out.2.1.next hSW).cell 2 rfl; have sz := (HC.out.2.1.next hSW).2; have u0 := (HC.out.1.1.1.next hSW).cell 0 rfl; have u1 := (HC.out.1.1.1.next hSW).cell 1 rfl; have u2 := (HC.out.1.1.1.next hSW).cell 2 rfl; have uz := (HC.out.1.1.1.next hSW).2); go_simp <;> (try with_reducible rfl))
    refine take_v (v := ?_) 4 ⟨some 63, Op.call { callee := Callee.builtin Builtin.len, args := #[Operand.tmp 62], argTypes := #[27] }, _, _, _, none⟩ rfl (fun _ _ _ h => h) ?_ hHeld ?_
    rotate_left
    · (intro W _; go_simp <;> (try with_reducible rfl))
    refine take_v (v := ?_) 5 ⟨some 64, Op.binOp BinOp.sub 3 (Operand.tmp 63) (Operand.const (Value.int IntKind.i64 1)) 3, _, _, _, none⟩ rfl (fun _ _ _ h => h) ?_ hHeld ?_
    rotate_left
    · (intro W _; go_simp <;> (try with_reducible rfl))
    refine ready_call 6 ⟨some 65, Op.call { callee := Callee.value (Operand.func 60), args := #[Operand.tmp 60, Operand.const (Value.int IntKind.i64 0), Operand.tmp 64], argTypes := #[3, 3, 3] }, _, _, _, none⟩ (by kernel_rfl) rfl (by kernel_rfl) (fun KC hK => ?_)
    go_wp2_with fail
    refine (l1In_any _ _ _ _).mono ?_
    rintro e w' ⟨rfl, hw⟩
    have hw := hw.symm
    subst hw
    rw [hir]
    refine hK.out _ _ hbW (fun hHeld => ?_)
    clear hK KC
    refine take_v (v := ?_) 7 ⟨some 66, Op.unOp UnOp.not 4 (Operand.tmp 65), _, _, _, none⟩ rfl (fun _ _ _ h => h) ?_ hHeld ?_
    rotate_left
    · (intro W _; go_simp <;> (try with_reducible rfl))
    refine take_v (v := ?_) 8 ⟨some 67, Op.move (Operand.tmp 66), _, _, _, none⟩ rfl (fun _ _ _ h => h) ?_ hHeld ?_
    rotate_left
    · (intro W _; go_simp <;> (try with_reducible rfl))
    refine take_n 9 ⟨some 68, Op.fieldAddr 48 (Operand.tmp 3) 2, _, _, _, some (8, false)⟩ rfl (fun _ _ _ h => h) hHeld ?_
    refine take_n 10 ⟨some 69, Op.load 3 (Operand.tmp 68), _, _, _, some (8, false)⟩ rfl (fun _ _ _ h => h) hHeld ?_
    refine take_n 11 ⟨some 70, Op.fieldAddr 29 (Operand.tmp 2) 0, _, _, _, some (8, false)⟩ rfl (fun _ _ _ h => h) hHeld ?_
    refine take_n 12 ⟨some 71, Op.load 27 (Operand.tmp 70), _, _, _, some (8, false)⟩ rfl (fun _ _ _ h => h) hHeld ?_
    refine take_n 13 ⟨some 72, Op.fieldAddr 48 (Operand.tmp 3) 1, _, _, _, some (8, false)⟩ rfl (fun _ _ _ h => h) hHeld ?_
    refine take_n 14 ⟨some 73, Op.load 3 (Operand.tmp 72), _, _, _, some (8, false)⟩ rfl (fun _ _ _ h => h) hHeld ?_
    refine take_n 15 ⟨some 74, Op.indexAddr 27 (Operand.tmp 71) (Operand.tmp 73), _, _, _, some (8, false)⟩ rfl (fun _ _ _ h => h) hHeld ?_
    refine take_n 16 ⟨some 75, Op.fieldAddr 42 (Operand.tmp 74) 0, _, _, _, some (8, false)⟩ rfl (fun _ _ _ h => h) hHeld ?_
    refine take_n 17 ⟨some 76, Op.load 40 (Operand.tmp 75), _, _, _, some (8, false)⟩ rfl (fun _ _ _ h => h) hHeld ?_
    refine take_n 18 ⟨some 77, Op.call { callee := Callee.builtin Builtin.len, args := #[Operand.tmp 76], argTypes := #[40] }, _, _, _, some (8, false)⟩ rfl (fun _ _ _ h => h) hHeld ?_
    refine take_n 19 ⟨some 78, Op.binOp BinOp.sub 3 (Operand.tmp 77) (Operand.const (Value.int IntKind.i64 1)) 3, _, _, _, some (8, false)⟩ rfl (fun _ _ _ h => h) hHeld ?_
    refine take_n 20 ⟨some 79, Op.call { callee := Callee.value (Operand.func 60), args := #[Operand.tmp 69, Operand.const (Value.int IntKind.i64 0), Operand.tmp 78], argTypes := #[3, 3, 3] }, _, _, _, some (8, false)⟩ rfl (fun _ _ _ h => h) hHeld ?_
    refine take_n 21 ⟨some 80, Op.unOp UnOp.not 4 (Operand.tmp 79), _, _, _, some (8, false)⟩ rfl (fun _ _ _ h => h) hHeld ?_
    refine take_v (v := ?_) 22 ⟨some 81, Op.pick (Operand.tmp 67) (Operand.const (Value.bool true)) (Operand.tmp 80), _, _, _, none⟩ rfl (fun _ _ _ h => h) ?_ hHeld ?_
    rotate_left
    · (intro W _; go_simp <;> (try with_reducible rfl))
    refine wpAnyH_done (by kernel_rfl) ?_ _
    refine NoPanic.normal ?_
    clear hHeld hbW
    have s0 := (HD.out.2.1).cell 0 rfl; have s1 := (HD.out.2.1).cell 1 rfl; have s2 := (HD.out.2.1).cell 2 rfl; have sz := (HD.out.2.1).2
    have u0 := (HD.out.1.1.1).cell 0 rfl; have u1 := (HD.out.1.1.1).cell 1 rfl; have u2 := (HD.out.1.1.1).cell 2 rfl; have uz := (HD.out.1.1.1).2
    have uf1 := HD.out.1.1.1.frz 1 (by simp)
    have uf2 := HD.out.1.1.1.frz 2 (by simp)
    have z0 := (HD.out.2.2.1).cell 0 rfl; have z1 := (HD.out.2.2.1).cell 1 rfl; have z2 := (HD.out.2.2.1).cell 2 rfl; have zz := (HD.out.2.2.1).2
    have zf0 := HD.out.2.2.1.frz 0 (by simp)
    have zf1 := HD.out.2.2.1.frz 1 (by simp)
    have zf2 := HD.out.2.2.1.frz 2 (by simp)
    have zz := HD.out.2.2.1.2
    go_wp2
    refine bodyPost_ret (v := .tuple #[.agg #[.slice va ss.length vc, .int .i64 0, .int .i64 0], .bool false]) (by simp [results, Tryd.results38, go_sem, *]) rfl ?_
    exact L5P.no HE.out HD.out.2.2.2.1 (by omega)
  obtain ⟨i', hi', hlt⟩ : ∃ i' : Nat, i = i' ∧ i' < ss.length := ⟨i.toNat, by have := inR_iff.1 hir; omega, by have := inR_iff.1 hir; omega⟩
  subst hi'
  obtain ⟨q, c, ag, c2, e1, e2, e3, e4⟩ := HC.out.1.shard hlt
  simp only [Value.slice.injEq, and_true, true_and] at e1
  obtain ⟨hva, hvc⟩ := e1
  subst hva
  subst hvc
  obtain ⟨l, hl⟩ : ∃ l, srs ss[i'] = l := ⟨_, rfl⟩
  have hln : l.length ≤ 1000 := by have := HR.out _ (List.getElem_mem hlt); rwa [hl] at this
  rw [hl] at e2
  have HQ : Hid (w0.cell? ⟨q, i', none⟩ = some (.slice ag l.length c2) ∧ q < w0.heap.size) := Hid.intro ⟨e2, e3⟩
  clear e2 e3 e4
  have i0 : (0 : Int) ≤ (i' : Int) ∧ (i' : Int) < (ss.length : Int) := by omega
  have hwn : IntKind.i64.wrap ((l.length : Int) - 1) = (l.length : Int) - 1 := w64f (by omega) (by omega)
  cases hjr : inR j 0 ((l.length : Int) - 1)
  case false =>
    have HE : Hid (stC ss 0 0 k (i' : Int) j = none) := Hid.intro (by rw [HS.out]; exact stR_j hlt (by rw [hl]; exact hjr))
    refine wp_region_noPanic ?_
    refine wp_region_held_drew (S := fun W => Below w0.heap.size w0 W) (by kernel_rfl) (below_drew _) (fun hHeld => ?_)
    have hbW := below_drew w0
    obtain ⟨W, hWE⟩ : ∃ x, x = w0.drew := ⟨_, rfl⟩
    rw [← hWE] at hbW hHeld ⊢
    clear hWE
    have HD := Hid.intro (L5S.next HC.out hbW)
    refine take_v (v := ?_) 0 ⟨some 59, Op.fieldAddr 48 (Operand.tmp 3) 1, _, _, _, none⟩ rfl (fun _ _ _ h => h) ?_ hHeld ?_
    rotate_left
    · (intro W _; go_simp <;> (try with_reducible rfl))
    refine take_v (v := ?_) 1 ⟨some 60, Op.load 3 (Operand.tmp 59), _, _, _, none⟩ rfl (fun _ _ _ h => h) ?_ hHeld ?_
    rotate_left
    · (intro W hSW; (have s0 := (HC.out.2.1.next hSW).cell 0 rfl; have s1 := (HC.out.2.1.next hSW).cell 1 rfl; have s2 := (HC.out.2.1.next hSW).cell 2 rfl; have sz := (HC.out.2.1.next hSW).2; have u0 := (HC.out.1.1.1.next hSW).cell 0 rfl; have u1 := (HC.out.1.1.1.next hSW).cell 1 rfl; have u2 := (HC.out.1.1.1.next hSW).cell 2 rfl; have uz := (HC.out.1.1.1.next hSW).2; have qs := (hSW.cell (p := ⟨q, i', none⟩) HQ.out.2).trans HQ.out.1); go_simp <;> (try with_reducible rfl))
    refine take_v (v := ?_) 2 ⟨some 61, Op.fieldAddr 29 (Operand.tmp 2) 0, _, _, _, none⟩ rfl (fun _ _ _ h => h) ?_ hHeld ?_
    rotate_left
    · (intro W _; go_simp <;> (try with_reducible rfl))
    refine take_v (v := ?_) 3 ⟨some 62, Op.load 27 (Operand.tmp 61), _, _, _, none⟩ rfl (fun _ _ _ h => h) ?_ hHeld ?_
    rotate_left
    · (intro W hSW; (have s0 := (HC.out.2.1.next hSW).cell 0 rfl; have s1 := (HC.out.2.1.next hSW).cell 1 rfl; have s2 := (HC.out.2.1.next hSW).cell 2 rfl; have sz := (HC.out.2.1.next hSW).2; have u0 := (HC.out.1.1.1.next hSW).cell 0 rfl; have u1 := (HC.out.1.1.1.next hSW).cell 1 rfl; have u2 := (HC.out.1.1.1.next hSW).cell 2 rfl; have uz := (HC.out.1.1.1.next hSW).2; have qs := (hSW.cell (p := ⟨q, i', none⟩) HQ.out.2).trans HQ.out.1); go_simp <;> (try with_reducible rfl))
    refine take_v (v := ?_) 4 ⟨some 63, Op.call { callee := Callee.builtin Builtin.len, args := #[Operand.tmp 62], argTypes := #[27] }, _, _, _, none⟩ rfl (fun _ _ _ h => h) ?_ hHeld ?_
    rotate_left
    · (intro W _; go_simp <;> (try with_reducible rfl))
    refine take_v (v := ?_) 5 ⟨some 64, Op.binOp BinOp.sub 3 (Operand.tmp 63) (Operand.const (Value.int IntKind.i64 1)) 3, _, _, _, none⟩ rfl (fun _ _ _ h => h) ?_ hHeld ?_
    rotate_left
    · (intro W _; go_simp <;> (try with_reducible rfl))
    refine ready_call 6 ⟨some 65, Op.call { callee := Callee.value (Operand.func 60), args := #[Operand.tmp 60, Operand.const (Value.int IntKind.i64 0), Operand.tmp 64], argTypes := #[3, 3, 3] }, _, _, _, none⟩ (by kernel_rfl) rfl (by kernel_rfl) (fun KC hK => ?_)
    go_wp2_with fail
    refine (l1In_any _ _ _ _).mono ?_
    rintro e w' ⟨rfl, hw⟩
    have hw := hw.symm
    subst hw
    rw [hir]
    refine hK.out _ _ hbW (fun hHeld => ?_)
    clear hK KC
    refine take_v (v := ?_) 7 ⟨some 66, Op.unOp UnOp.not 4 (Operand.tmp 65), _, _, _, none⟩ rfl (fun _ _ _ h => h) ?_ hHeld ?_
    rotate_left
    · (intro W _; go_simp <;> (try with_reducible rfl))
    refine take_v (v := ?_) 8 ⟨some 67, Op.move (Operand.tmp 66), _, _, _, none⟩ rfl (fun _ _ _ h => h) ?_ hHeld ?_
    rotate_left
    · (intro W _; go_simp <;> (try with_reducible rfl))
    refine take_v (v := ?_) 9 ⟨some 68, Op.fieldAddr 48 (Operand.tmp 3) 2, _, _, _, some (8, false)⟩ rfl (fun _ _ _ h => h) ?_ hHeld ?_
    rotate_left
    · (intro W _; go_simp <;> (try with_reducible rfl))
    refine take_v (v := ?_) 10 ⟨some 69, Op.load 3 (Operand.tmp 68), _, _, _, some (8, false)⟩ rfl (fun _ _ _ h => h) ?_ hHeld ?_
    rotate_left
    · (intro W hSW; (have s0 := (HC.out.2.1.next hSW).cell 0 rfl; have s1 := (HC.out.2.1.next hSW).cell 1 rfl; have s2 := (HC.out.2.1.next hSW).cell 2 rfl; have sz := (HC.out.2.1.next hSW).2; have u0 := (HC.out.1.1.1.next hSW).cell 0 rfl; have u1 := (HC.out.1.1.1.next hSW).cell 1 rfl; have u2 := (HC.out.1.1.1.next hSW).cell 2 rfl; have uz := (HC.out.1.1.1.next hSW).2; have qs := (hSW.cell (p := ⟨q, i', none⟩) HQ.out.2).trans HQ.out.1); go_simp <;> (try with_reducible rfl))
    refine take_v (v := ?_) 11 ⟨some 70, Op.fieldAddr 29 (Operand.tmp 2) 0, _, _, _, some (8, false)⟩ rfl (fun _ _ _ h => h) ?_ hHeld ?_
    rotate_left
    · (intro W _; go_simp <;> (try with_reducible rfl))
    refine take_v (v := ?_) 12 ⟨some 71, Op.load 27 (Operand.tmp 70), _, _, _, some (8, false)⟩ rfl (fun _ _ _ h => h) ?_ hHeld ?_
    rotate_left
    · (intro W hSW; (have s0 := (HC.out.2.1.next hSW).cell 0 rfl; have s1 := (HC.out.2.1.next hSW).cell 1 rfl; have s2 := (HC.out.2.1.next hSW).cell 2 rfl; have sz := (HC.out.2.1.next hSW).2; have u0 := (HC.out.1.1.1.next hSW).cell 0 rfl; have u1 := (HC.out.1.1.1.next hSW).cell 1 rfl; have u2 := (HC.out.1.1.1.next hSW).cell 2 rfl; have uz := (HC.out.1.1.1.next hSW).2; have qs := (hSW.cell (p := ⟨q, i', none⟩) HQ.out.2).trans HQ.out.1); go_simp <;> (try with_reducible rfl))
    refine take_v (v := ?_) 13 ⟨some 72, Op.fieldAddr 48 (Operand.tmp 3) 1, _, _, _, some (8, false)⟩ rfl (fun _ _ _ h => h) ?_ hHeld ?_
    rotate_left
    · (intro W _; go_simp <;> (try with_reducible rfl))
    refine take_v (v := ?_) 14 ⟨some 73, Op.load 3 (Operand.tmp 72), _, _, _, some (8, false)⟩ rfl (fun _ _ _ h => h) ?_ hHeld ?_
    rotate_left
    · (intro W hSW; (have s0 := (HC.out.2.1.next hSW).cell 0 rfl; have s1 := (HC.out.2.1.next hSW).cell 1 rfl; have s2 := (HC.out.2.1.next hSW).cell 2 rfl; have sz := (HC.out.2.1.next hSW).2; have u0 := (HC.out.1.1.1.next hSW).cell 0 rfl; have u1 := (HC.out.1.1.1.next hSW).cell 1 rfl; have u2 := (HC.out.1.1.1.next hSW).cell 2 rfl; have uz := (HC.out.1.1.1.next hSW).2; have qs := (hSW.cell (p := ⟨q, i', none⟩) HQ.out.2).trans HQ.out.1); go_simp <;> (try with_reducible rfl))
    refine take_v (v := ?_) 15 ⟨some 74, Op.indexAddr 27 (Operand.tmp 71) (Operand.tmp 73), _, _, _, some (8, false)⟩ rfl (fun _ _ _ h => h) ?_ hHeld ?_
    rotate_left
    · (intro W _; go_simp <;> (try with_reducible rfl))
    refine take_v (v := ?_) 16 ⟨some 75, Op.fieldAddr 42 (Operand.tmp 74) 0, _, _, _, some (8, false)⟩ rfl (fun _ _ _ h => h) ?_ hHeld ?_
    rotate_left
    · (intro W _; go_simp <;> (try with_reducible rfl))
    refine take_v (v := ?_) 17 ⟨some 76, Op.load 40 (Operand.tmp 75), _, _, _, some (8, false)⟩ rfl (fun _ _ _ h => h) ?_ hHeld ?_
    rotate_left
    · (intro W hSW; (have s0 := (HC.out.2.1.next hSW).cell 0 rfl; have s1 := (HC.out.2.1.next hSW).cell 1 rfl; have s2 := (HC.out.2.1.next hSW).cell 2 rfl; have sz := (HC.out.2.1.next hSW).2; have u0 := (HC.out.1.1.1.next hSW).cell 0 rfl; have u1 := (HC.out.1.1.1.next hSW).cell 1 rfl; have u2 := (HC.out.1.1.1.next hSW).cell 2 rfl; have uz := (HC.out.1.1.1.next hSW).2; have qs := (hSW.cell (p := ⟨q, i', none⟩) HQ.out.2).trans HQ.out.1); go_simp <;> (try with_reducible rfl))
    refine take_v (v := ?_) 18 ⟨some 77, Op.call { callee := Callee.builtin Builtin.len, args := #[Operand.tmp 76], argTypes := #[40] }, _, _, _, some (8, false)⟩ rfl (fun _ _ _ h => h) ?_ hHeld ?_
    rotate_left
    · (intro W _; go_simp <;> (try with_reducible rfl))
    refine take_v (v := ?_) 19 ⟨some 78, Op.binOp BinOp.sub 3 (Operand.tmp 77) (Operand.const (Value.int IntKind.i64 1)) 3, _, _, _, some (8, false)⟩ rfl (fun _ _ _ h => h) ?_ hHeld ?_
    rotate_left
    · (intro W _; go_simp <;> (try with_reducible rfl))
    refine ready_call 20 ⟨some 79, Op.call { callee := Callee.value (Operand.func 60), args := #[Operand.tmp 69, Operand.const (Value.int IntKind.i64 0), Operand.tmp 78], argTypes := #[3, 3, 3] }, _, _, _, some (8, false)⟩ (by kernel_rfl) rfl (by kernel_rfl) (fun KC hK => ?_)
    go_wp2_with fail
    refine (l1In_any _ _ _ _).mono ?_
    rintro e w' ⟨rfl, hw⟩
    have hw := hw.symm
    subst hw
    rw [hjr]
    refine hK.out _ _ hbW (fun hHeld => ?_)
    clear hK KC
    refine take_v (v := ?_) 21 ⟨some 80, Op.unOp UnOp.not 4 (Operand.tmp 79), _, _, _, some (8, false)⟩ rfl (fun _ _ _ h => h) ?_ hHeld ?_
    rotate_left
    · (intro W _; go_simp <;> (try with_reducible rfl))
    refine take_v (v := ?_) 22 ⟨some 81, Op.pick (Operand.tmp 67) (Operand.const (Value.bool true)) (Operand.tmp 80), _, _, _, none⟩ rfl (fun _ _ _ h => h) ?_ hHeld ?_
    rotate_left
    · (intro W _; go_simp <;> (try with_reducible rfl))
    refine wpAnyH_done (by kernel_rfl) ?_ _
    refine NoPanic.normal ?_
    clear hHeld hbW
    have s0 := (HD.out.2.1).cell 0 rfl; have s1 := (HD.out.2.1).cell 1 rfl; have s2 := (HD.out.2.1).cell 2 rfl; have sz := (HD.out.2.1).2
    have u0 := (HD.out.1.1.1).cell 0 rfl; have u1 := (HD.out.1.1.1).cell 1 rfl; have u2 := (HD.out.1.1.1).cell 2 rfl; have uz := (HD.out.1.1.1).2
    have uf1 := HD.out.1.1.1.frz 1 (by simp)
    have uf2 := HD.out.1.1.1.frz 2 (by simp)
    have z0 := (HD.out.2.2.1).cell 0 rfl; have z1 := (HD.out.2.2.1).cell 1 rfl; have z2 := (HD.out.2.2.1).cell 2 rfl; have zz := (HD.out.2.2.1).2
    have zf0 := HD.out.2.2.1.frz 0 (by simp)
    have zf1 := HD.out.2.2.1.frz 1 (by simp)
    have zf2 := HD.out.2.2.1.frz 2 (by simp)
    have zz := HD.out.2.2.1.2
    go_wp2
    refine bodyPost_ret (v := .tuple #[.agg #[.slice (some ⟨q, 0, none⟩) ss.length vc, .int .i64 0, .int .i64 0], .bool false]) (by simp [results, Tryd.results38, go_sem, *]) rfl ?_
    exact L5P.no HE.out HD.out.2.2.2.1 (by omega)
  obtain ⟨j', hj', hlj⟩ : ∃ j' : Nat, j = j' ∧ j' < l.length := ⟨j.toNat, by have := inR_iff.1 hjr; omega, by have := inR_iff.1 hjr; omega⟩
  subst hj'
  obtain ⟨y, hy⟩ : ∃ y, l[j'] = y := ⟨_, rfl⟩
  obtain ⟨q2, c', g, c3, hR⟩ := HC.out.1.rep hlt hl hlj hy
  have e5 := hR.hv
  simp only [Value.slice.injEq, Option.some.injEq, Addr.mk.injEq, and_true, true_and] at e5
  obtain ⟨hq2, hc2⟩ := e5
  subst hq2
  subst hc2
  have HQ : Hid (w0.cell? ⟨q, i', none⟩ = some (.slice (some ⟨g, 0, none⟩) l.length c3) ∧ q < w0.heap.size) := Hid.intro ⟨hR.hs, hR.hq⟩
  have HP := Hid.intro hR
  clear hR
  have j0 : (0 : Int) ≤ (j' : Int) ∧ (j' : Int) < (l.length : Int) := by omega
  have HL : Hid (∃ (a : i' < ss.length) (b : j' < l.length), srs ss[i'] = l ∧ l[j'] = y) := Hid.intro ⟨hlt, hlj, hl, hy⟩
  obtain ⟨d, hd⟩ : ∃ d, rdn y = d := ⟨_, rfl⟩
  obtain ⟨h, hh⟩ : ∃ h, rhs y = h := ⟨_, rfl⟩
  have HY : Hid (rdn y = d ∧ rhs y = h) := Hid.intro ⟨hd, hh⟩
  clear hlt hl hlj hy hd hh
  refine wp_region_noPanic ?_
  refine wp_region_held_drew (S := fun W => Below w0.heap.size w0 W) (by kernel_rfl) (below_drew _) (fun hHeld => ?_)
  have hbW := below_drew w0
  obtain ⟨W, hWE⟩ : ∃ x, x = w0.drew := ⟨_, rfl⟩
  rw [← hWE] at hbW hHeld ⊢
  clear hWE
  have HD := Hid.intro (L5S.next HC.out hbW)
  refine take_v (v := ?_) 0 ⟨some 59, Op.fieldAddr 48 (Operand.tmp 3) 1, _, _, _, none⟩ rfl (fun _ _ _ h => h) ?_ hHeld ?_
  rotate_left
  · (intro W _; go_simp <;> (try with_reducible rfl))
  refine take_v (v := ?_) 1 ⟨some 60, Op.load 3 (Operand.tmp 59), _, _, _, none⟩ rfl (fun _ _ _ h => h) ?_ hHeld ?_
  rotate_left
  · (intro W hSW; (have s0 := (HC.out.2.1.next hSW).cell 0 rfl; have s1 := (HC.out.2.1.next hSW).cell 1 rfl; have s2 := (HC.out.2.1.next hSW).cell 2 rfl; have sz := (HC.out.2.1.next hSW).2; have u0 := (HC.out.1.1.1.next hSW).cell 0 rfl; have u1 := (HC.out.1.1.1.next hSW).cell 1 rfl; have u2 := (HC.out.1.1.1.next hSW).cell 2 rfl; have uz := (HC.out.1.1.1.next hSW).2; have qs := (hSW.cell (p := ⟨q, i', none⟩) HQ.out.2).trans HQ.out.1); go_simp <;> (try with_reducible rfl))
  refine take_v (v := ?_) 2 ⟨some 61, Op.fieldAddr 29 (Operand.tmp 2) 0, _, _, _, none⟩ rfl (fun _ _ _ h => h) ?_ hHeld ?_
  rotate_left
  · (intro W _; go_simp <;> (try with_reducible rfl))
  refine take_v (v := ?_) 3 ⟨some 62, Op.load 27 (Operand.tmp 61), _, _, _, none⟩ rfl (fun _ _ _ h => h) ?_ hHeld ?_
  rotate_left
  · (intro W hSW; (have s0 := (HC.out.2.1.next hSW).cell 0 rfl; have s1 := (HC.out.2.1.next hSW).cell 1 rfl; have s2 := (HC.out.2.1.next hSW).cell 2 rfl; have sz := (HC.out.2.1.next hSW).2; have u0 := (HC.out.1.1.1.next hSW).cell 0 rfl; have u1 := (HC.out.1.1.1.next hSW).cell 1 rfl; have u2 := (HC.out.1.1.1.next hSW).cell 2 rfl; have uz := (HC.out.1.1.1.next hSW).2; have qs := (hSW.cell (p := ⟨q, i', none⟩) HQ.out.2).trans HQ.out.1); go_simp <;> (try with_reducible rfl))
  refine take_v (v := ?_) 4 ⟨some 63, Op.call { callee := Callee.builtin Builtin.len, args := #[Operand.tmp 62], argTypes := #[27] }, _, _, _, none⟩ rfl (fun _ _ _ h => h) ?_ hHeld ?_
  rotate_left
  · (intro W _; go_simp <;> (try with_reducible rfl))
  refine take_v (v := ?_) 5 ⟨some 64, Op.binOp BinOp.sub 3 (Operand.tmp 63) (Operand.const (Value.int IntKind.i64 1)) 3, _, _, _, none⟩ rfl (fun _ _ _ h => h) ?_ hHeld ?_
  rotate_left
  · (intro W _; go_simp <;> (try with_reducible rfl))
  refine ready_call 6 ⟨some 65, Op.call { callee := Callee.value (Operand.func 60), args := #[Operand.tmp 60, Operand.const (Value.int IntKind.i64 0), Operand.tmp 64], argTypes := #[3, 3, 3] }, _, _, _, none⟩ (by kernel_rfl) rfl (by kernel_rfl) (fun KC hK => ?_)
  go_wp2_with fail
  refine (l1In_any _ _ _ _).mono ?_
  rintro e w' ⟨rfl, hw⟩
  have hw := hw.symm
  subst hw
  rw [hir]
  refine hK.out _ _ hbW (fun hHeld => ?_)
  clear hK KC
  refine take_v (v := ?_) 7 ⟨some 66, Op.unOp UnOp.not 4 (Operand.tmp 65), _, _, _, none⟩ rfl (fun _ _ _ h => h) ?_ hHeld ?_
  rotate_left
  · (intro W _; go_simp <;> (try with_reducible rfl))
  refine take_v (v := ?_) 8 ⟨some 67, Op.move (Operand.tmp 66), _, _, _, none⟩ rfl (fun _ _ _ h => h) ?_ hHeld ?_
  rotate_left
  · (intro W _; go_simp <;> (try with_reducible rfl))
  refine take_v (v := ?_) 9 ⟨some 68, Op.fieldAddr 48 (Operand.tmp 3) 2, _, _, _, some (8, false)⟩ rfl (fun _ _ _ h => h) ?_ hHeld ?_
  rotate_left
  · (intro W _; go_simp <;> (try with_reducible rfl))
  refine take_v (v := ?_) 10 ⟨some 69, Op.load 3 (Operand.tmp 68), _, _, _, some (8, false)⟩ rfl (fun _ _ _ h => h) ?_ hHeld ?_
  rotate_left
  · (intro W hSW; (have s0 := (HC.out.2.1.next hSW).cell 0 rfl; have s1 := (HC.out.2.1.next hSW).cell 1 rfl; have s2 := (HC.out.2.1.next hSW).cell 2 rfl; have sz := (HC.out.2.1.next hSW).2; have u0 := (HC.out.1.1.1.next hSW).cell 0 rfl; have u1 := (HC.out.1.1.1.next hSW).cell 1 rfl; have u2 := (HC.out.1.1.1.next hSW).cell 2 rfl; have uz := (HC.out.1.1.1.next hSW).2; have qs := (hSW.cell (p := ⟨q, i', none⟩) HQ.out.2).trans HQ.out.1); go_simp <;> (try with_reducible rfl))
  refine take_v (v := ?_) 11 ⟨some 70, Op.fieldAddr 29 (Operand.tmp 2) 0, _, _, _, some (8, false)⟩ rfl (fun _ _ _ h => h) ?_ hHeld ?_
  rotate_left
  · (intro W _; go_simp <;> (try with_reducible rfl))
  refine take_v (v := ?_) 12 ⟨some 71, Op.load 27 (Operand.tmp 70), _, _, _, some (8, false)⟩ rfl (fun _ _ _ h => h) ?_ hHeld ?_
  rotate_left
  · (intro W hSW; (have s0 := (HC.out.2.1.next hSW).cell 0 rfl; have s1 := (HC.out.2.1.next hSW).cell 1 rfl; have s2 := (HC.out.2.1.next hSW).cell 2 rfl; have sz := (HC.out.2.1.next hSW).2; have u0 := (HC.out.1.1.1.next hSW).cell 0 rfl; have u1 := (HC.out.1.1.1.next hSW).cell 1 rfl; have u2 := (HC.out.1.1.1.next hSW).cell 2 rfl; have uz := (HC.out.1.1.1.next hSW).2; have qs := (hSW.cell (p := ⟨q, i', none⟩) HQ.out.2).trans HQ.out.1); go_simp <;> (try with_reducible rfl))
  refine take_v (v := ?_) 13 ⟨some 72, Op.fieldAddr 48 (Operand.tmp 3) 1, _, _, _, some (8, false)⟩ rfl (fun _ _ _ h => h) ?_ hHeld ?_
  rotate_left
  · (intro W _; go_simp <;> (try with_reducible rfl))
  refine take_v (v := ?_) 14 ⟨some 73, Op.load 3 (Operand.tmp 72), _, _, _, some (8, false)⟩ rfl (fun _ _ _ h => h) ?_ hHeld ?_
  rotate_left
  · (intro W hSW; (have s0 := (HC.out.2.1.next hSW).cell 0 rfl; have s1 := (HC.out.2.1.next hSW).cell 1 rfl; have s2 := (HC.out.2.1.next hSW).cell 2 rfl; have sz := (HC.out.2.1.next hSW).2; have u0 := (HC.out.1.1.1.next hSW).cell 0 rfl; have u1 := (HC.out.1.1.1.next hSW).cell 1 rfl; have u2 := (HC.out.1.1.1.next hSW).cell 2 rfl; have uz := (HC.out.1.1.1.next hSW).2; have qs := (hSW.cell (p := ⟨q, i', none⟩) HQ.out.2).trans HQ.out.1); go_simp <;> (try with_reducible rfl))
  refine take_v (v := ?_) 15 ⟨some 74, Op.indexAddr 27 (Operand.tmp 71) (Operand.tmp 73), _, _, _, some (8, false)⟩ rfl (fun _ _ _ h => h) ?_ hHeld ?_
  rotate_left
  · (intro W _; go_simp <;> (try with_reducible rfl))
  refine take_v (v := ?_) 16 ⟨some 75, Op.fieldAddr 42 (Operand.tmp 74) 0, _, _, _, some (8, false)⟩ rfl (fun _ _ _ h => h) ?_ hHeld ?_
  rotate_left
  · (intro W _; go_simp <;> (try with_reducible rfl))
  refine take_v (v := ?_) 17 ⟨some 76, Op.load 40 (Operand.tmp 75), _, _, _, some (8, false)⟩ rfl (fun _ _ _ h => h) ?_ hHeld ?_
  rotate_left
  · (intro W hSW; (have s0 := (HC.out.2.1.next hSW).cell 0 rfl; have s1 := (HC.out.2.1.next hSW).cell 1 rfl; have s2 := (HC.out.2.1.next hSW).cell 2 rfl; have sz := (HC.out.2.1.next hSW).2; have u0 := (HC.out.1.1.1.next hSW).cell 0 rfl; have u1 := (HC.out.1.1.1.next hSW).cell 1 rfl; have u2 := (HC.out.1.1.1.next hSW).cell 2 rfl; have uz := (HC.out.1.1.1.next hSW).2; have qs := (hSW.cell (p := ⟨q, i', none⟩) HQ.out.2).trans HQ.out.1); go_simp <;> (try with_reducible rfl))
  refine take_v (v := ?_) 18 ⟨some 77, Op.call { callee := Callee.builtin Builtin.len, args := #[Operand.tmp 76], argTypes := #[40] }, _, _, _, some (8, false)⟩ rfl (fun _ _ _ h => h) ?_ hHeld ?_
  rotate_left
  · (intro W _; go_simp <;> (try with_reducible rfl))
  refine take_v (v := ?_) 19 ⟨some 78, Op.binOp BinOp.sub 3 (Operand.tmp 77) (Operand.const (Value.int IntKind.i64 1)) 3, _, _, _, some (8, false)⟩ rfl (fun _ _ _ h => h) ?_ hHeld ?_
  rotate_left
  · (intro W _; go_simp <;> (try with_reducible rfl))
  refine ready_call 20 ⟨some 79, Op.call { callee := Callee.value (Operand.func 60), args := #[Operand.tmp 69, Operand.const (Value.int IntKind.i64 0), Operand.tmp 78], argTypes := #[3, 3, 3] }, _, _, _, some (8, false)⟩ (by kernel_rfl) rfl (by kernel_rfl) (fun KC hK => ?_)
  go_wp2_with fail
  refine (l1In_any _ _ _ _).mono ?_
  rintro e w' ⟨rfl, hw⟩
  have hw := hw.symm
  subst hw
  rw [hjr]
  refine hK.out _ _ hbW (fun hHeld => ?_)
  clear hK KC
  refine take_v (v := ?_) 21 ⟨some 80, Op.unOp UnOp.not 4 (Operand.tmp 79), _, _, _, some (8, false)⟩ rfl (fun _ _ _ h => h) ?_ hHeld ?_
  rotate_left
  · (intro W _; go_simp <;> (try with_reducible rfl))
  refine take_v (v := ?_) 22 ⟨some 81, Op.pick (Operand.tmp 67) (Operand.const (Value.bool true)) (Operand.tmp 80), _, _, _, none⟩ rfl (fun _ _ _ h => h) ?_ hHeld ?_
  rotate_left
  · (intro W _; go_simp <;> (try with_reducible rfl))
  refine wpAnyH_done (by kernel_rfl) ?_ _
  refine NoPanic.normal ?_
  clear hHeld
  have HP := Hid.intro (RpX.carry HP.out HC.out.1 hbW)
  clear hbW
  have s0 := (HD.out.2.1).cell 0 rfl; have s1 := (HD.out.2.1).cell 1 rfl; have s2 := (HD.out.2.1).cell 2 rfl; have sz := (HD.out.2.1).2
  have u0 := (HD.out.1.1.1).cell 0 rfl; have u1 := (HD.out.1.1.1).cell 1 rfl; have u2 := (HD.out.1.1.1).cell 2 rfl; have uz := (HD.out.1.1.1).2
  have uf1 := HD.out.1.1.1.frz 1 (by simp)
  have uf2 := HD.out.1.1.1.frz 2 (by simp)
  have z0 := (HD.out.2.2.1).cell 0 rfl; have z1 := (HD.out.2.2.1).cell 1 rfl; have z2 := (HD.out.2.2.1).cell 2 rfl; have zz := (HD.out.2.2.1).2
  have zf0 := HD.out.2.2.1.frz 0 (by simp)
  have zf1 := HD.out.2.2.1.frz 1 (by simp)
  have zf2 := HD.out.2.2.1.frz 2 (by simp)
  have zz := HD.out.2.2.1.2
  have qs := HP.out.hs
  have qz := HP.out.hq
  have g0 := HP.out.hd
  have g1 := HP.out.hh
  have gz := HP.out.hg
  rw [HY.out.1] at g0
  rw [HY.out.2] at g1
  obtain ⟨X, hXE⟩ : ∃ x, x = (W.alloc (.cells #[.slice (some ⟨g, 0, none⟩) l.length c3] 42)).alloc (.cells #[.bool d, .int .i64 h] 44) := ⟨_, rfl⟩
  obtain ⟨B, hBE⟩ : ∃ x, x = W.heap.size := ⟨_, rfl⟩
  have HX : Hid (L5L w lo up (.slice (some ⟨q, 0, none⟩) ss.length vc) ss 0 0 k i' j' B q vc g c3 l y d h X) := Hid.intro (hBE ▸ hXE ▸ L5L.start HD.out HP.out d h)
  go_upto_region 24 with fail
  rw [← hXE, ← hBE]
  clear hXE hBE HP HD s0 s1 s2 sz u0 u1 u2 uz uf1 uf2 z0 z1 z2 zf0 zf1 zf2 zz qs qz g0 g1 gz
  have s0 := (HX.out.1.2.1).cell 0 rfl; have s1 := (HX.out.1.2.1).cell 1 rfl; have s2 := (HX.out.1.2.1).cell 2 rfl; have sz := (HX.out.1.2.1).2
  have u0 := (HX.out.1.1.1.1).cell 0 rfl; have u1 := (HX.out.1.1.1.1).cell 1 rfl; have u2 := (HX.out.1.1.1.1).cell 2 rfl; have uz := (HX.out.1.1.1.1).2
  have uf1 := HX.out.1.1.1.1.frz 1 (by simp)
  have uf2 := HX.out.1.1.1.1.frz 2 (by simp)
  have z0 := (HX.out.1.2.2.1).cell 0 rfl; have z1 := (HX.out.1.2.2.1).cell 1 rfl; have z2 := (HX.out.1.2.2.1).cell 2 rfl; have zz := (HX.out.1.2.2.1).2
  have zf0 := HX.out.1.2.2.1.frz 0 (by simp)
  have zf1 := HX.out.1.2.2.1.frz 1 (by simp)
  have zf2 := HX.out.1.2.2.1.frz 2 (by simp)
  have zz := HX.out.1.2.2.1.2
  have p0 := (HX.out.2.2.1).cell 0 rfl; have pz := (HX.out.2.2.1).2
  have r0 := (HX.out.2.2.2.1).cell 0 rfl; have r1 := (HX.out.2.2.2.1).cell 1 rfl; have rz := (HX.out.2.2.2.1).2
  have rf0 := HX.out.2.2.2.1.frz 0 (by simp)
  have rf1 := HX.out.2.2.2.1.frz 1 (by simp)
  cases d
  case true =>
    have HE : Hid (stC ss 0 0 k (i' : Int) (j' : Int) = none) := Hid.intro (by obtain ⟨a, b, e1, e2⟩ := HL.out; subst e1; subst e2; rw [HS.out]; exact stR_dn a b HY.out.1)
    go_wp2
    refine bodyPost_ret (v := .tuple #[.agg #[.slice (some ⟨q, 0, none⟩) ss.length vc, .int .i64 0, .int .i64 0], .bool false]) (by simp [results, Tryd.results38, go_sem, *]) rfl ?_
    exact L5P.no HE.out HX.out.1.2.2.2.1 (by omega)
  case false =>
  have HUP : Hid (∀ k, stR ss 0 0 k (i' : Int) (j' : Int) = (nxR ss 0 0 (mkS l) j' y k).map fun r' => (ss.set i' (mkS (l.set j' r')), 0, 0)) := Hid.intro (fun k => by obtain ⟨a, b, e1, e2⟩ := HL.out; exact stR_up a e1 b e2 HY.out.1)
  go_upto_region 26 with fail
  by_cases hk1 : k = 1
  · subst hk1
    obtain ⟨pm, hpm⟩ : ∃ pm, prm (mkS l) = pm := ⟨_, rfl⟩
    have HPM := Hid.intro hpm
    clear hpm
    have HLX : Hid (Lies X (.list shReplica) [.slice (some ⟨g, 0, none⟩) l.length c3] l ∧ l.length ≤ 1073741824) := Hid.intro ⟨HX.out.2.1.hl, Nat.le_trans hln (by decide)⟩
    go_upto_region 29 with fail
    clear s0 s1 s2 sz u0 u1 u2 uz uf1 uf2 z0 z1 z2 zf0 zf1 zf2 zz p0 pz r0 r1 rz rf0 rf1
    by_cases hp : pm = (j' : Int)
    case neg =>
      have hpq : (pm != (j' : Int)) = true := by simpa using hp
      have HE : Hid (stC ss 0 0 1 (i' : Int) (j' : Int) = none) := Hid.intro (by rw [HS.out, HUP.out, show nxR ss 0 0 (mkS l) j' y 1 = none from by unfold nxR; rw [if_pos rfl]; rw [if_neg (fun q => hp (by rw [← HPM.out]; exact q.2.1))]]; rfl)
      refine wp_region_noPanic ?_
      refine wp_region_held_drew (S := fun W => Below X.heap.size X W) (by kernel_rfl) (below_drew _) (fun hHeld => ?_)
      have hbX := below_drew X
      refine take_v (v := ?_) 0 ⟨some 103, Op.move (Operand.tmp 6), _, _, _, none⟩ rfl (fun _ _ _ h => h) ?_ hHeld ?_
      rotate_left
      · (intro W _; go_simp <;> (try with_reducible rfl))
      refine take_v (v := ?_) 1 ⟨some 104, Op.unOp UnOp.not 4 (Operand.tmp 103), _, _, _, none⟩ rfl (fun _ _ _ h => h) ?_ hHeld ?_
      rotate_left
      · (intro W _; go_simp <;> (try with_reducible rfl))
      refine take_v (v := ?_) 2 ⟨some 105, Op.move (Operand.tmp 104), _, _, _, none⟩ rfl (fun _ _ _ h => h) ?_ hHeld ?_
      rotate_left
      · (intro W _; go_simp <;> (try with_reducible rfl))
      refine take_v (v := ?_) 3 ⟨some 106, Op.load 42 (Operand.tmp 7), _, _, _, some (2, false)⟩ rfl (fun _ _ _ h => h) ?_ hHeld ?_
      rotate_left
      · (intro W hSW; (have s0 := (HX.out.1.2.1.next hSW).cell 0 rfl; have s1 := (HX.out.1.2.1.next hSW).cell 1 rfl; have s2 := (HX.out.1.2.1.next hSW).cell 2 rfl; have sz := (HX.out.1.2.1.next hSW).2; have p0 := (HX.out.2.2.1.next hSW).cell 0 rfl; have pz := (HX.out.2.2.1.next hSW).2; have r0 := (HX.out.2.2.2.1.next hSW).cell 0 rfl; have r1 := (HX.out.2.2.2.1.next hSW).cell 1 rfl; have rz := (HX.out.2.2.2.1.next hSW).2); go_simp <;> (try with_reducible rfl))
      refine take_v (v := ?_) 5 ⟨some 108, Op.fieldAddr 48 (Operand.tmp 3) 2, _, _, _, some (2, false)⟩ rfl (fun _ _ _ h => h) ?_ hHeld ?_
      rotate_left
      · (intro W _; go_simp <;> (try with_reducible rfl))
      refine take_v (v := ?_) 6 ⟨some 109, Op.load 3 (Operand.tmp 108), _, _, _, some (2, false)⟩ rfl (fun _ _ _ h => h) ?_ hHeld ?_
      rotate_left
      · (intro W hSW; (have s0 := (HX.out.1.2.1.next hSW).cell 0 rfl; have s1 := (HX.out.1.2.1.next hSW).cell 1 rfl; have s2 := (HX.out.1.2.1.next hSW).cell 2 rfl; have sz := (HX.out.1.2.1.next hSW).2; have p0 := (HX.out.2.2.1.next hSW).cell 0 rfl; have pz := (HX.out.2.2.1.next hSW).2; have r0 := (HX.out.2.2.2.1.next hSW).cell 0 rfl; have r1 := (HX.out.2.2.2.1.next hSW).cell 1 rfl; have rz := (HX.out.2.2.2.1.next hSW).2); go_simp <;> (try with_reducible rfl))
      refine ready_call 4 ⟨some 107, Op.call { callee := Callee.value (Operand.func 62), args := #[Operand.tmp 106], argTypes := #[42] }, _, _, _, some (2, false)⟩ (by kernel_rfl) rfl (by kernel_rfl) (fun KC hK => ?_)
      go_wp2_with fail
      refine (HPM.out ▸ l15Primary_n (some ⟨g, 0, none⟩) c3 l _ HLX.out.2 (HLX.out.1.next (below_drew _))).mono ?_
      rintro r w3 ⟨rfl, hb⟩
      have hbw := below_next (below_drew X) hb
      clear hb
      refine hK.out _ _ hbw (fun hHeld => ?_)
      clear hK KC
      refine take_v (v := ?_) 7 ⟨some 110, Op.binOp BinOp.neq 3 (Operand.tmp 107) (Operand.tmp 109) 3, _, _, _, some (2, false)⟩ rfl (fun _ _ _ h => h) ?_ hHeld ?_
      rotate_left
      · (intro W _; go_simp <;> (try with_reducible rfl))
      refine take_v (v := ?_) 8 ⟨some 111, Op.pick (Operand.tmp 105) (Operand.const (Value.bool true)) (Operand.tmp 110), _, _, _, none⟩ rfl (fun _ _ _ h => h) ?_ hHeld ?_
      rotate_left
      · (intro W _; go_simp <;> (try with_reducible rfl))
      refine take_v (v := ?_) 9 ⟨some 112, Op.move (Operand.tmp 111), _, _, _, none⟩ rfl (fun _ _ _ h => h) ?_ hHeld ?_
      rotate_left
      · (intro W _; go_simp <;> (try with_reducible rfl))
      refine take_n 10 ⟨some 113, Op.fieldAddr 44 (Operand.tmp 8) 1, _, _, _, some (9, false)⟩ rfl (fun _ _ _ h => h) hHeld ?_
      refine take_n 11 ⟨some 114, Op.load 3 (Operand.tmp 113), _, _, _, some (9, false)⟩ rfl (fun _ _ _ h => h) hHeld ?_
      refine take_n 12 ⟨some 115, Op.binOp BinOp.neq 3 (Operand.tmp 114) (Operand.const (Value.int IntKind.i64 0)) 3, _, _, _, some (9, false)⟩ rfl (fun _ _ _ h => h) hHeld ?_
      refine take_v (v := ?_) 13 ⟨some 116, Op.pick (Operand.tmp 112) (Operand.const (Value.bool true)) (Operand.tmp 115), _, _, _, none⟩ rfl (fun _ _ _ h => h) ?_ hHeld ?_
      rotate_left
      · (intro W _; go_simp <;> (try with_reducible rfl))
      refine wpAnyH_done (by kernel_rfl) ?_ _
      refine NoPanic.normal ?_
      have HX := Hid.intro (L5L.next HX.out hbw)
      clear hHeld hbw hbX
      have s0 := (HX.out.1.2.1).cell 0 rfl; have s1 := (HX.out.1.2.1).cell 1 rfl; have s2 := (HX.out.1.2.1).cell 2 rfl; have sz := (HX.out.1.2.1).2
      have u0 := (HX.out.1.1.1.1).cell 0 rfl; have u1 := (HX.out.1.1.1.1).cell 1 rfl; have u2 := (HX.out.1.1.1.1).cell 2 rfl; have uz := (HX.out.1.1.1.1).2
      have uf1 := HX.out.1.1.1.1.frz 1 (by simp)
      have uf2 := HX.out.1.1.1.1.frz 2 (by simp)
      have z0 := (HX.out.1.2.2.1).cell 0 rfl; have z1 := (HX.out.1.2.2.1).cell 1 rfl; have z2 := (HX.out.1.2.2.1).cell 2 rfl; have zz := (HX.out.1.2.2.1).2
      have zf0 := HX.out.1.2.2.1.frz 0 (by simp)
      have zf1 := HX.out.1.2.2.1.frz 1 (by simp)
      have zf2 := HX.out.1.2.2.1.frz 2 (by simp)
      have zz := HX.out.1.2.2.1.2
      have p0 := (HX.out.2.2.1).cell 0 rfl; have pz := (HX.out.2.2.1).2
      have r0 := (HX.out.2.2.2.1).cell 0 rfl; have r1 := (HX.out.2.2.2.1).cell 1 rfl; have rz := (HX.out.2.2.2.1).2
      have rf0 := HX.out.2.2.2.1.frz 0 (by simp)
      have rf1 := HX.out.2.2.2.1.frz 1 (by simp)
      go_wp2
      refine bodyPost_ret (v := .tuple #[.agg #[.slice (some ⟨q, 0, none⟩) ss.length vc, .int .i64 0, .int .i64 0], .bool false]) (by simp [results, Tryd.results38, go_sem, *]) rfl ?_
      exact L5P.no HE.out HX.out.1.2.2.2.1 (by omega)
    subst hp
    by_cases h0 : h = 0
    case neg =>
      have hq0 : (h != 0) = true := by simpa using h0
      have HE : Hid (stC ss 0 0 1 (i' : Int) (j' : Int) = none) := Hid.intro (by rw [HS.out, HUP.out, show nxR ss 0 0 (mkS l) j' y 1 = none from by unfold nxR; rw [if_pos rfl]; rw [if_neg (fun q => h0 (by rw [← HY.out.2]; exact q.2.2))]]; rfl)
      refine wp_region_noPanic ?_
      refine wp_region_held_drew (S := fun W => Below X.heap.size X W) (by kernel_rfl) (below_drew _) (fun hHeld => ?_)
      have hbX := below_drew X
      refine take_v (v := ?_) 0 ⟨some 103, Op.move (Operand.tmp 6), _, _, _, none⟩ rfl (fun _ _ _ h => h) ?_ hHeld ?_
      rotate_left
      · (intro W _; go_simp <;> (try with_reducible rfl))
      refine take_v (v := ?_) 1 ⟨some 104, Op.unOp UnOp.not 4 (Operand.tmp 103), _, _, _, none⟩ rfl (fun _ _ _ h => h) ?_ hHeld ?_
      rotate_left
      · (intro W _; go_simp <;> (try with_reducible rfl))
      refine take_v (v := ?_) 2 ⟨some 105, Op.move (Operand.tmp 104), _, _, _, none⟩ rfl (fun _ _ _ h => h) ?_ hHeld ?_
      rotate_left
      · (intro W _; go_simp <;> (try with_reducible rfl))
      refine take_v (v := ?_) 3 ⟨some 106, Op.load 42 (Operand.tmp 7), _, _, _, some (2, false)⟩ rfl (fun _ _ _ h => h) ?_ hHeld ?_
      rotate_left
      · (intro W hSW; (have s0 := (HX.out.1.2.1.next hSW).cell 0 rfl; have s1 := (HX.out.1.2.1.next hSW).cell 1 rfl; have s2 := (HX.out.1.2.1.next hSW).cell 2 rfl; have sz := (HX.out.1.2.1.next hSW).2; have p0 := (HX.out.2.2.1.next hSW).cell 0 rfl; have pz := (HX.out.2.2.1.next hSW).2; have r0 := (HX.out.2.2.2.1.next hSW).cell 0 rfl; have r1 := (HX.out.2.2.2.1.next hSW).cell 1 rfl; have rz := (HX.out.2.2.2.1.next hSW).2); go_simp <;> (try with_reducible rfl))
      refine take_v (v := ?_) 5 ⟨some 108, Op.fieldAddr 48 (Operand.tmp 3) 2, _, _, _, some (2, false)⟩ rfl (fun _ _ _ h => h) ?_ hHeld ?_
      rotate_left
      · (intro W _; go_simp <;> (try with_reducible rfl))
      refine take_v (v := ?_) 6 ⟨some 109, Op.load 3 (Operand.tmp 108), _, _, _, some (2, false)⟩ rfl (fun _ _ _ h => h) ?_ hHeld ?_
      rotate_left
      · (intro W hSW; (have s0 := (HX.out.1.2.1.next hSW).cell 0 rfl; have s1 := (HX.out.1.2.1.next hSW).cell 1 rfl; have s2 := (HX.out.1.2.1.next hSW).cell 2 rfl; have sz := (HX.out.1.2.1.next hSW).2; have p0 := (HX.out.2.2.1.next hSW).cell 0 rfl; have pz := (HX.out.2.2.1.next hSW).2; have r0 := (HX.out.2.2.2.1.next hSW).cell 0 rfl; have r1 := (HX.out.2.2.2.1.next hSW).cell 1 rfl; have rz := (HX.out.2.2.2.1.next hSW).2); go_simp <;> (try with_reducible rfl))
      refine ready_call 4 ⟨some 107, Op.call { callee := Callee.value (Operand.func 62), args := #[Operand.tmp 106], argTypes := #[42] }, _, _, _, some (2, false)⟩ (by kernel_rfl) rfl (by kernel_rfl) (fun KC hK => ?_)
      go_wp2_with fail
      refine (HPM.out ▸ l15Primary_n (some ⟨g, 0, none⟩) c3 l _ HLX.out.2 (HLX.out.1.next (below_drew _))).mono ?_
      rintro r w3 ⟨rfl, hb⟩
      have hbw := below_next (below_drew X) hb
      clear hb
      refine hK.out _ _ hbw (fun hHeld => ?_)
      clear hK KC
      refine take_v (v := ?_) 7 ⟨some 110, Op.binOp BinOp.neq 3 (Operand.tmp 107) (Operand.tmp 109) 3, _, _, _, some (2, false)⟩ rfl (fun _ _ _ h => h) ?_ hHeld ?_
      rotate_left
      · (intro W _; go_simp <;> (try with_reducible rfl))
      refine take_v (v := ?_) 8 ⟨some 111, Op.pick (Operand.tmp 105) (Operand.const (Value.bool true)) (Operand.tmp 110), _, _, _, none⟩ rfl (fun _ _ _ h => h) ?_ hHeld ?_
      rotate_left
      · (intro W _; go_simp <;> (try with_reducible rfl))
      refine take_v (v := ?_) 9 ⟨some 112, Op.move (Operand.tmp 111), _, _, _, none⟩ rfl (fun _ _ _ h => h) ?_ hHeld ?_
      rotate_left
      · (intro W _; go_simp <;> (try with_reducible rfl))
      refine take_v (v := ?_) 10 ⟨some 113, Op.fieldAddr 44 (Operand.tmp 8) 1, _, _, _, some (9, false)⟩ rfl (fun _ _ _ h => h) ?_ hHeld ?_
      rotate_left
      · (intro W _; go_simp <;> (try with_reducible rfl))
      refine take_v (v := ?_) 11 ⟨some 114, Op.load 3 (Operand.tmp 113), _, _, _, some (9, false)⟩ rfl (fun _ _ _ h => h) ?_ hHeld ?_
      rotate_left
      · (intro W hSW; (have s0 := (HX.out.1.2.1.next hSW).cell 0 rfl; have s1 := (HX.out.1.2.1.next hSW).cell 1 rfl; have s2 := (HX.out.1.2.1.next hSW).cell 2 rfl; have sz := (HX.out.1.2.1.next hSW).2; have p0 := (HX.out.2.2.1.next hSW).cell 0 rfl; have pz := (HX.out.2.2.1.next hSW).2; have r0 := (HX.out.2.2.2.1.next hSW).cell 0 rfl; have r1 := (HX.out.2.2.2.1.next hSW).cell 1 rfl; have rz := (HX.out.2.2.2.1.next hSW).2); go_simp <;> (try with_reducible rfl))
      refine take_v (v := ?_) 12 ⟨some 115, Op.binOp BinOp.neq 3 (Operand.tmp 114) (Operand.const (Value.int IntKind.i64 0)) 3, _, _, _, some (9, false)⟩ rfl (fun _ _ _ h => h) ?_ hHeld ?_
      rotate_left
      · (intro W _; go_simp <;> (try with_reducible rfl))
      refine take_v (v := ?_) 13 ⟨some 116, Op.pick (Operand.tmp 112) (Operand.const (Value.bool true)) (Operand.tmp 115), _, _, _, none⟩ rfl (fun _ _ _ h => h) ?_ hHeld ?_
      rotate_left
      · (intro W _; go_simp <;> (try with_reducible rfl))
      refine wpAnyH_done (by kernel_rfl) ?_ _
      refine NoPanic.normal ?_
      have HX := Hid.intro (L5L.next HX.out hbw)
      clear hHeld hbw hbX
      have s0 := (HX.out.1.2.1).cell 0 rfl; have s1 := (HX.out.1.2.1).cell 1 rfl; have s2 := (HX.out.1.2.1).cell 2 rfl; have sz := (HX.out.1.2.1).2
      have u0 := (HX.out.1.1.1.1).cell 0 rfl; have u1 := (HX.out.1.1.1.1).cell 1 rfl; have u2 := (HX.out.1.1.1.1).cell 2 rfl; have uz := (HX.out.1.1.1.1).2
      have uf1 := HX.out.1.1.1.1.frz 1 (by simp)
      have uf2 := HX.out.1.1.1.1.frz 2 (by simp)
      have z0 := (HX.out.1.2.2.1).cell 0 rfl; have z1 := (HX.out.1.2.2.1).cell 1 rfl; have z2 := (HX.out.1.2.2.1).cell 2 rfl; have zz := (HX.out.1.2.2.1).2
      have zf0 := HX.out.1.2.2.1.frz 0 (by simp)
      have zf1 := HX.out.1.2.2.1.frz 1 (by simp)
      have zf2 := HX.out.1.2.2.1.frz 2 (by simp)
      have zz := HX.out.1.2.2.1.2
      have p0 := (HX.out.2.2.1).cell 0 rfl; have pz := (HX.out.2.2.1).2
      have r0 := (HX.out.2.2.2.1).cell 0 rfl; have r1 := (HX.out.2.2.2.1).cell 1 rfl; have rz := (HX.out.2.2.2.1).2
      have rf0 := HX.out.2.2.2.1.frz 0 (by simp)
      have rf1 := HX.out.2.2.2.1.frz 1 (by simp)
      go_wp2
      refine bodyPost_ret (v := .tuple #[.agg #[.slice (some ⟨q, 0, none⟩) ss.length vc, .int .i64 0, .int .i64 0], .bool false]) (by simp [results, Tryd.results38, go_sem, *]) rfl ?_
      exact L5P.no HE.out HX.out.1.2.2.2.1 (by omega)
    have hq0 : (h != 0) = false := by simpa using h0
    have HE : Hid (stC ss 0 0 1 (i' : Int) (j' : Int) = some (ss.set i' (mkS (l.set j' (mkR false 1))), 0, 0)) := Hid.intro (by rw [HS.out, HUP.out, show nxR ss 0 0 (mkS l) j' y 1 = some (mkR false 1) from by unfold nxR; rw [if_pos rfl]; rw [if_pos ⟨decN_zero.2 ⟨rfl, rfl⟩, HPM.out, by rw [HY.out.2]; exact h0⟩]]; rfl)
    refine wp_region_noPanic ?_
    refine wp_region_held_drew (S := fun W => Below X.heap.size X W) (by kernel_rfl) (below_drew _) (fun hHeld => ?_)
    have hbX := below_drew X
    refine take_v (v := ?_) 0 ⟨some 103, Op.move (Operand.tmp 6), _, _, _, none⟩ rfl (fun _ _ _ h => h) ?_ hHeld ?_
    rotate_left
    · (intro W _; go_simp <;> (try with_reducible rfl))
    refine take_v (v := ?_) 1 ⟨some 104, Op.unOp UnOp.not 4 (Operand.tmp 103), _, _, _, none⟩ rfl (fun _ _ _ h => h) ?_ hHeld ?_
    rotate_left
    · (intro W _; go_simp <;> (try with_reducible rfl))
    refine take_v (v := ?_) 2 ⟨some 105, Op.move (Operand.tmp 104), _, _, _, none⟩ rfl (fun _ _ _ h => h) ?_ hHeld ?_
    rotate_left
    · (intro W _; go_simp <;> (try with_reducible rfl))
    refine take_v (v := ?_) 3 ⟨some 106, Op.load 42 (Operand.tmp 7), _, _, _, some (2, false)⟩ rfl (fun _ _ _ h => h) ?_ hHeld ?_
    rotate_left
    · (intro W hSW; (have s0 := (HX.out.1.2.1.next hSW).cell 0 rfl; have s1 := (HX.out.1.2.1.next hSW).cell 1 rfl; have s2 := (HX.out.1.2.1.next hSW).cell 2 rfl; have sz := (HX.out.1.2.1.next hSW).2; have p0 := (HX.out.2.2.1.next hSW).cell 0 rfl; have pz := (HX.out.2.2.1.next hSW).2; have r0 := (HX.out.2.2.2.1.next hSW).cell 0 rfl; have r1 := (HX.out.2.2.2.1.next hSW).cell 1 rfl; have rz := (HX.out.2.2.2.1.next hSW).2); go_simp <;> (try with_reducible rfl))
    refine take_v (v := ?_) 5 ⟨some 108, Op.fieldAddr 48 (Operand.tmp 3) 2, _, _, _, some (2, false)⟩ rfl (fun _ _ _ h => h) ?_ hHeld ?_
    rotate_left
    · (intro W _; go_simp <;> (try with_reducible rfl))
    refine take_v (v := ?_) 6 ⟨some 109, Op.load 3 (Operand.tmp 108), _, _, _, some (2, false)⟩ rfl (fun _ _ _ h => h) ?_ hHeld ?_
    rotate_left
    · (intro W hSW; (have s0 := (HX.out.1.2.1.next hSW).cell 0 rfl; have s1 := (HX.out.1.2.1.next hSW).cell 1 rfl; have s2 := (HX.out.1.2.1.next hSW).cell 2 rfl; have sz := (HX.out.1.2.1.next hSW).2; have p0 := (HX.out.2.2.1.next hSW).cell 0 rfl; have pz := (HX.out.2.2.1.next hSW).2; have r0 := (HX.out.2.2.2.1.next hSW).cell 0 rfl; have r1 := (HX.out.2.2.2.1.next hSW).cell 1 rfl; have rz := (HX.out.2.2.2.1.next hSW).2); go_simp <;> (try with_reducible rfl))
    refine ready_call 4 ⟨some 107, Op.call { callee := Callee.value (Operand.func 62), args := #[Operand.tmp 106], argTypes := #[42] }, _, _, _, some (2, false)⟩ (by kernel_rfl) rfl (by kernel_rfl) (fun KC hK => ?_)
    go_wp2_with fail
    refine (HPM.out ▸ l15Primary_n (some ⟨g, 0, none⟩) c3 l _ HLX.out.2 (HLX.out.1.next (below_drew _))).mono ?_
    rintro r w3 ⟨rfl, hb⟩
    have hbw := below_next (below_drew X) hb
    clear hb
    refine hK.out _ _ hbw (fun hHeld => ?_)
    clear hK KC
    refine take_v (v := ?_) 7 ⟨some 110, Op.binOp BinOp.neq 3 (Operand.tmp 107) (Operand.tmp 109) 3, _, _, _, some (2, false)⟩ rfl (fun _ _ _ h => h) ?_ hHeld ?_
    rotate_left
    · (intro W _; go_simp <;> (try with_reducible rfl))
    refine take_v (v := ?_) 8 ⟨some 111, Op.pick (Operand.tmp 105) (Operand.const (Value.bool true)) (Operand.tmp 110), _, _, _, none⟩ rfl (fun _ _ _ h => h) ?_ hHeld ?_
    rotate_left
    · (intro W _; go_simp <;> (try with_reducible rfl))
    refine take_v (v := ?_) 9 ⟨some 112, Op.move (Operand.tmp 111), _, _, _, none⟩ rfl (fun _ _ _ h => h) ?_ hHeld ?_
    rotate_left
    · (intro W _; go_simp <;> (try with_reducible rfl))
    refine take_v (v := ?_) 10 ⟨some 113, Op.fieldAddr 44 (Operand.tmp 8) 1, _, _, _, some (9, false)⟩ rfl (fun _ _ _ h => h) ?_ hHeld ?_
    rotate_left
    · (intro W _; go_simp <;> (try with_reducible rfl))
    refine take_v (v := ?_) 11 ⟨some 114, Op.load 3 (Operand.tmp 113), _, _, _, some (9, false)⟩ rfl (fun _ _ _ h => h) ?_ hHeld ?_
    rotate_left
    · (intro W hSW; (have s0 := (HX.out.1.2.1.next hSW).cell 0 rfl; have s1 := (HX.out.1.2.1.next hSW).cell 1 rfl; have s2 := (HX.out.1.2.1.next hSW).cell 2 rfl; have sz := (HX.out.1.2.1.next hSW).2; have p0 := (HX.out.2.2.1.next hSW).cell 0 rfl; have pz := (HX.out.2.2.1.next hSW).2; have r0 := (HX.out.2.2.2.1.next hSW).cell 0 rfl; have r1 := (HX.out.2.2.2.1.next hSW).cell 1 rfl; have rz := (HX.out.2.2.2.1.next hSW).2); go_simp <;> (try with_reducible rfl))
    refine take_v (v := ?_) 12 ⟨some 115, Op.binOp BinOp.neq 3 (Operand.tmp 114) (Operand.const (Value.int IntKind.i64 0)) 3, _, _, _, some (9, false)⟩ rfl (fun _ _ _ h => h) ?_ hHeld ?_
    rotate_left
    · (intro W _; go_simp <;> (try with_reducible rfl))
    refine take_v (v := ?_) 13 ⟨some 116, Op.pick (Operand.tmp 112) (Operand.const (Value.bool true)) (Operand.tmp 115), _, _, _, none⟩ rfl (fun _ _ _ h => h) ?_ hHeld ?_
    rotate_left
    · (intro W _; go_simp <;> (try with_reducible rfl))
    refine wpAnyH_done (by kernel_rfl) ?_ _
    refine NoPanic.normal ?_
    obtain ⟨XX, hXX⟩ : ∃ x, x = w3 := ⟨_, rfl⟩
    have HX := Hid.intro (L5L.next HX.out hbw)
    clear hHeld hbw hbX
    subst hXX
    have s0 := (HX.out.1.2.1).cell 0 rfl; have s1 := (HX.out.1.2.1).cell 1 rfl; have s2 := (HX.out.1.2.1).cell 2 rfl; have sz := (HX.out.1.2.1).2
    have u0 := (HX.out.1.1.1.1).cell 0 rfl; have u1 := (HX.out.1.1.1.1).cell 1 rfl; have u2 := (HX.out.1.1.1.1).cell 2 rfl; have uz := (HX.out.1.1.1.1).2
    have uf1 := HX.out.1.1.1.1.frz 1 (by simp)
    have uf2 := HX.out.1.1.1.1.frz 2 (by simp)
    have z0 := (HX.out.1.2.2.1).cell 0 rfl; have z1 := (HX.out.1.2.2.1).cell 1 rfl; have z2 := (HX.out.1.2.2.1).cell 2 rfl; have zz := (HX.out.1.2.2.1).2
    have zf0 := HX.out.1.2.2.1.frz 0 (by simp)
    have zf1 := HX.out.1.2.2.1.frz 1 (by simp)
    have zf2 := HX.out.1.2.2.1.frz 2 (by simp)
    have zz := HX.out.1.2.2.1.2
    have p0 := (HX.out.2.2.1).cell 0 rfl; have pz := (HX.out.2.2.1).2
    have r0 := (HX.out.2.2.2.1).cell 0 rfl; have r1 := (HX.out.2.2.2.1).cell 1 rfl; have rz := (HX.out.2.2.2.1).2
    have rf0 := HX.out.2.2.2.1.frz 0 (by simp)
    have rf1 := HX.out.2.2.2.1.frz 1 (by simp)
    obtain ⟨Y, hYE⟩ : ∃ x, x = XX.setCell ⟨B + 1, 1, none⟩ (.int .i64 1) := ⟨_, rfl⟩
    have HN := Hid.intro (hYE ▸ L5L.has HX.out 1)
    go_upto_region 54 with fail
    rw [← hYE]
    clear hYE s0 s1 s2 sz u0 u1 u2 uz uf1 uf2 z0 z1 z2 zf0 zf1 zf2 zz p0 pz r0 r1 rz rf0 rf1
    obtain ⟨Z, hZ⟩ : ∃ x, x = (Y.setCell ⟨g, j' * 2, none⟩ (.bool false)).setCell ⟨g, j' * 2 + 1, none⟩ (.int .i64 1) := ⟨_, rfl⟩
    have HZ := Hid.intro (hZ ▸ L5L.put HN.out)
    have HG : Hid (Y.frozen? ⟨g, j' * 2, none⟩ = false ∧ Y.frozen? ⟨g, j' * 2 + 1, none⟩ = false ∧ g < Y.heap.size ∧ Y.cell? ⟨g, j' * 2, none⟩ = some (.bool (rdn y)) ∧ Y.cell? ⟨g, j' * 2 + 1, none⟩ = some (.int .i64 (rhs y))) := Hid.intro ⟨HN.out.2.1.fd, HN.out.2.1.fh, HN.out.2.1.hg, HN.out.2.1.hd, HN.out.2.1.hh⟩
    have HU : Hid (up ≤ w.heap.size) := Hid.intro HN.out.1.2.2.2.2.1
    have s0 := (HN.out.1.2.1).cell 0 rfl; have s1 := (HN.out.1.2.1).cell 1 rfl; have s2 := (HN.out.1.2.1).cell 2 rfl; have sz := (HN.out.1.2.1).2
    have u0 := (HN.out.1.1.1.1).cell 0 rfl; have u1 := (HN.out.1.1.1.1).cell 1 rfl; have u2 := (HN.out.1.1.1.1).cell 2 rfl; have uz := (HN.out.1.1.1.1).2
    have uf1 := HN.out.1.1.1.1.frz 1 (by simp)
    have uf2 := HN.out.1.1.1.1.frz 2 (by simp)
    have z0 := (HN.out.1.2.2.1).cell 0 rfl; have z1 := (HN.out.1.2.2.1).cell 1 rfl; have z2 := (HN.out.1.2.2.1).cell 2 rfl; have zz := (HN.out.1.2.2.1).2
    have zf0 := HN.out.1.2.2.1.frz 0 (by simp)
    have zf1 := HN.out.1.2.2.1.frz 1 (by simp)
    have zf2 := HN.out.1.2.2.1.frz 2 (by simp)
    have zz := HN.out.1.2.2.1.2
    have p0 := (HN.out.2.2.1).cell 0 rfl; have pz := (HN.out.2.2.1).2
    have r0 := (HN.out.2.2.2.1).cell 0 rfl; have r1 := (HN.out.2.2.2.1).cell 1 rfl; have rz := (HN.out.2.2.2.1).2
    have rf0 := HN.out.2.2.2.1.frz 0 (by simp)
    have rf1 := HN.out.2.2.2.1.frz 1 (by simp)
    have gd := HG.out.1
    have gf := HG.out.2.1
    have gz := HG.out.2.2.1
    have g0 := HG.out.2.2.2.1
    have g1 := HG.out.2.2.2.2
    go_upto_region 55 with fail
    rw [← hZ]
    clear hZ s0 s1 s2 sz u0 u1 u2 uz uf1 uf2 z0 z1 z2 zf0 zf1 zf2 zz p0 pz r0 r1 rz rf0 rf1 gd gf gz g0 g1
    have u0 := (HZ.out.1.1.1).cell 0 rfl; have u1 := (HZ.out.1.1.1).cell 1 rfl; have u2 := (HZ.out.1.1.1).cell 2 rfl; have uz := (HZ.out.1.1.1).2
    have z0 := (HZ.out.2.1).cell 0 rfl; have z1 := (HZ.out.2.1).cell 1 rfl; have z2 := (HZ.out.2.1).cell 2 rfl; have zz := (HZ.out.2.1).2
    have zf0 := HZ.out.2.1.frz 0 (by simp)
    have zf1 := HZ.out.2.1.frz 1 (by simp)
    have zf2 := HZ.out.2.1.frz 2 (by simp)
    have zz := HZ.out.2.1.2
    go_wp2
    refine bodyPost_ret (v := .tuple #[.agg #[.slice (some ⟨q, 0, none⟩) ss.length vc, .int .i64 0, .int .i64 0], .bool true]) (by simp [results, Tryd.results38, go_sem, *]) rfl ?_
    exact L5P.yes HE.out HZ.out.1 HZ.out.2.2 (by omega) HU.out
  by_cases hk2 : k = 2
  · subst hk2
    cases ha : ss.all lkdB
    · have HA := Hid.intro ha
      have HE : Hid (stC ss 0 0 2 (i' : Int) (j' : Int) = none) := Hid.intro (by rw [HS.out, HUP.out, show nxR ss 0 0 (mkS l) j' y 2 = none from by unfold nxR; rw [if_neg (by decide), if_pos rfl]; rw [if_neg (fun q => by rw [HA.out] at q; cases q.2.1)]]; rfl)
      clear ha
      go_wp2_with (go_at_call 63; refine (l15All_n (some ⟨q, 0, none⟩) vc ss _ _ _ (Nat.le_trans hn (by decide)) (fun s hs => Nat.le_trans (HR.out s hs) (by decide)) HX.out.1.1.lies).mono ?_; rintro r w2 ⟨rfl, hb⟩; rw [HA.out]; obtain ⟨X2, hX2⟩ : ∃ x, x = w2 := ⟨_, rfl⟩; have HX := Hid.intro (L5L.next HX.out hb); subst hX2; clear hb s0 s1 s2 sz u0 u1 u2 uz uf1 uf2 z0 z1 z2 zf0 zf1 zf2 zz p0 pz r0 r1 rz rf0 rf1; have s0 := HX.out.1.2.1.cell 0 rfl; have s1 := HX.out.1.2.1.cell 1 rfl; have s2 := HX.out.1.2.1.cell 2 rfl; have u0 := HX.out.1.1.1.1.cell 0 rfl; have u1 := HX.out.1.1.1.1.cell 1 rfl; have u2 := HX.out.1.1.1.1.cell 2 rfl; have z0 := HX.out.1.2.2.1.cell 0 rfl; have z1 := HX.out.1.2.2.1.cell 1 rfl; have z2 := HX.out.1.2.2.1.cell 2 rfl; have sz := HX.out.1.2.1.2; have uz := HX.out.1.1.1.1.2; have zz := HX.out.1.2.2.1.2; have uf1 := HX.out.1.1.1.1.frz 1 (by simp); have uf2 := HX.out.1.1.1.1.frz 2 (by simp); have zf0 := HX.out.1.2.2.1.frz 0 (by simp); have zf1 := HX.out.1.2.2.1.frz 1 (by simp); have zf2 := HX.out.1.2.2.1.frz 2 (by simp); have p0 := HX.out.2.2.1.cell 0 rfl; have pz := HX.out.2.2.1.2; have r0 := HX.out.2.2.2.1.cell 0 rfl; have r1 := HX.out.2.2.2.1.cell 1 rfl; have rz := HX.out.2.2.2.1.2; have rf0 := HX.out.2.2.2.1.frz 0 (by simp); have rf1 := HX.out.2.2.2.1.frz 1 (by simp))
      refine bodyPost_ret (v := .tuple #[.agg #[.slice (some ⟨q, 0, none⟩) ss.length vc, .int .i64 0, .int .i64 0], .bool false]) (by simp [results, Tryd.results38, go_sem, *]) rfl ?_
      exact L5P.no HE.out HX.out.1.2.2.2.1 (by omega)
    have HA := Hid.intro ha
    clear ha
    by_cases h0 : h = 0
    · have hc0 : (h != 0) = false := by simpa using h0
      have HE : Hid (stC ss 0 0 2 (i' : Int) (j' : Int) = some (ss.set i' (mkS (l.set j' (mkR false 2))), 0, 0)) := Hid.intro (by rw [HS.out, HUP.out, show nxR ss 0 0 (mkS l) j' y 2 = some (mkR false 2) from by unfold nxR; rw [if_neg (by decide), if_pos rfl]; rw [if_pos ⟨decN_zero.2 ⟨rfl, rfl⟩, HA.out, Or.inl (by rw [HY.out.2]; exact h0)⟩]]; rfl)
      clear h0
      go_upto_region 35 with (go_at_call 63; refine (l15All_n (some ⟨q, 0, none⟩) vc ss _ _ _ (Nat.le_trans hn (by decide)) (fun s hs => Nat.le_trans (HR.out s hs) (by decide)) HX.out.1.1.lies).mono ?_; rintro r w2 ⟨rfl, hb⟩; rw [HA.out]; obtain ⟨X2, hX2⟩ : ∃ x, x = w2 := ⟨_, rfl⟩; have HX := Hid.intro (L5L.next HX.out hb); subst hX2; clear hb s0 s1 s2 sz u0 u1 u2 uz uf1 uf2 z0 z1 z2 zf0 zf1 zf2 zz p0 pz r0 r1 rz rf0 rf1; have s0 := HX.out.1.2.1.cell 0 rfl; have s1 := HX.out.1.2.1.cell 1 rfl; have s2 := HX.out.1.2.1.cell 2 rfl; have u0 := HX.out.1.1.1.1.cell 0 rfl; have u1 := HX.out.1.1.1.1.cell 1 rfl; have u2 := HX.out.1.1.1.1.cell 2 rfl; have z0 := HX.out.1.2.2.1.cell 0 rfl; have z1 := HX.out.1.2.2.1.cell 1 rfl; have z2 := HX.out.1.2.2.1.cell 2 rfl; have sz := HX.out.1.2.1.2; have uz := HX.out.1.1.1.1.2; have zz := HX.out.1.2.2.1.2; have uf1 := HX.out.1.1.1.1.frz 1 (by simp); have uf2 := HX.out.1.1.1.1.frz 2 (by simp); have zf0 := HX.out.1.2.2.1.frz 0 (by simp); have zf1 := HX.out.1.2.2.1.frz 1 (by simp); have zf2 := HX.out.1.2.2.1.frz 2 (by simp); have p0 := HX.out.2.2.1.cell 0 rfl; have pz := HX.out.2.2.1.2; have r0 := HX.out.2.2.2.1.cell 0 rfl; have r1 := HX.out.2.2.2.1.cell 1 rfl; have rz := HX.out.2.2.2.1.2; have rf0 := HX.out.2.2.2.1.frz 0 (by simp); have rf1 := HX.out.2.2.2.1.frz 1 (by simp))
      obtain ⟨Y, hYE⟩ : ∃ x, x = X2.setCell ⟨B + 1, 1, none⟩ (.int .i64 2) := ⟨_, rfl⟩
      have HN := Hid.intro (hYE ▸ L5L.has HX.out 2)
      go_upto_region 54 with fail
      rw [← hYE]
      clear hYE s0 s1 s2 sz u0 u1 u2 uz uf1 uf2 z0 z1 z2 zf0 zf1 zf2 zz p0 pz r0 r1 rz rf0 rf1
      obtain ⟨Z, hZ⟩ : ∃ x, x = (Y.setCell ⟨g, j' * 2, none⟩ (.bool false)).setCell ⟨g, j' * 2 + 1, none⟩ (.int .i64 2) := ⟨_, rfl⟩
      have HZ := Hid.intro (hZ ▸ L5L.put HN.out)
      have HG : Hid (Y.frozen? ⟨g, j' * 2, none⟩ = false ∧ Y.frozen? ⟨g, j' * 2 + 1, none⟩ = false ∧ g < Y.heap.size ∧ Y.cell? ⟨g, j' * 2, none⟩ = some (.bool (rdn y)) ∧ Y.cell? ⟨g, j' * 2 + 1, none⟩ = some (.int .i64 (rhs y))) := Hid.intro ⟨HN.out.2.1.fd, HN.out.2.1.fh, HN.out.2.1.hg, HN.out.2.1.hd, HN.out.2.1.hh⟩
      have HU : Hid (up ≤ w.heap.size) := Hid.intro HN.out.1.2.2.2.2.1
      have s0 := (HN.out.1.2.1).cell 0 rfl; have s1 := (HN.out.1.2.1).cell 1 rfl; have s2 := (HN.out.1.2.1).cell 2 rfl; have sz := (HN.out.1.2.1).2
      have u0 := (HN.out.1.1.1.1).cell 0 rfl; have u1 := (HN.out.1.1.1.1).cell 1 rfl; have u2 := (HN.out.1.1.1.1).cell 2 rfl; have uz := (HN.out.1.1.1.1).2
      have uf1 := HN.out.1.1.1.1.frz 1 (by simp)
      have uf2 := HN.out.1.1.1.1.frz 2 (by simp)
      have z0 := (HN.out.1.2.2.1).cell 0 rfl; have z1 := (HN.out.1.2.2.1).cell 1 rfl; have z2 := (HN.out.1.2.2.1).cell 2 rfl; have zz := (HN.out.1.2.2.1).2
      have zf0 := HN.out.1.2.2.1.frz 0 (by simp)
      have zf1 := HN.out.1.2.2.1.frz 1 (by simp)
      have zf2 := HN.out.1.2.2.1.frz 2 (by simp)
      have zz := HN.out.1.2.2.1.2
      have p0 := (HN.out.2.2.1).cell 0 rfl; have pz := (HN.out.2.2.1).2
      have r0 := (HN.out.2.2.2.1).cell 0 rfl; have r1 := (HN.out.2.2.2.1).cell 1 rfl; have rz := (HN.out.2.2.2.1).2
      have rf0 := HN.out.2.2.2.1.frz 0 (by simp)
      have rf1 := HN.out.2.2.2.1.frz 1 (by simp)
      have gd := HG.out.1
      have gf := HG.out.2.1
      have gz := HG.out.2.2.1
      have g0 := HG.out.2.2.2.1
      have g1 := HG.out.2.2.2.2
      go_upto_region 55 with fail
      rw [← hZ]
      clear hZ s0 s1 s2 sz u0 u1 u2 uz uf1 uf2 z0 z1 z2 zf0 zf1 zf2 zz p0 pz r0 r1 rz rf0 rf1 gd gf gz g0 g1
      have u0 := (HZ.out.1.1.1).cell 0 rfl; have u1 := (HZ.out.1.1.1).cell 1 rfl; have u2 := (HZ.out.1.1.1).cell 2 rfl; have uz := (HZ.out.1.1.1).2
      have z0 := (HZ.out.2.1).cell 0 rfl; have z1 := (HZ.out.2.1).cell 1 rfl; have z2 := (HZ.out.2.1).cell 2 rfl; have zz := (HZ.out.2.1).2
      have zf0 := HZ.out.2.1.frz 0 (by simp)
      have zf1 := HZ.out.2.1.frz 1 (by simp)
      have zf2 := HZ.out.2.1.frz 2 (by simp)
      have zz := HZ.out.2.1.2
      go_wp2
      refine bodyPost_ret (v := .tuple #[.agg #[.slice (some ⟨q, 0, none⟩) ss.length vc, .int .i64 0, .int .i64 0], .bool true]) (by simp [results, Tryd.results38, go_sem, *]) rfl ?_
      exact L5P.yes HE.out HZ.out.1 HZ.out.2.2 (by omega) HU.out
    by_cases h1 : h = 1
    · have hc0 : (h != 0) = true := by simpa using h0
      have hc1 : (h != 1) = false := by simpa using h1
      have HE : Hid (stC ss 0 0 2 (i' : Int) (j' : Int) = some (ss.set i' (mkS (l.set j' (mkR false 2))), 0, 0)) := Hid.intro (by rw [HS.out, HUP.out, show nxR ss 0 0 (mkS l) j' y 2 = some (mkR false 2) from by unfold nxR; rw [if_neg (by decide), if_pos rfl]; rw [if_pos ⟨decN_zero.2 ⟨rfl, rfl⟩, HA.out, Or.inr (by rw [HY.out.2]; exact h1)⟩]]; rfl)
      clear h0 h1
      go_upto_region 35 with (go_at_call 63; refine (l15All_n (some ⟨q, 0, none⟩) vc ss _ _ _ (Nat.le_trans hn (by decide)) (fun s hs => Nat.le_trans (HR.out s hs) (by decide)) HX.out.1.1.lies).mono ?_; rintro r w2 ⟨rfl, hb⟩; rw [HA.out]; obtain ⟨X2, hX2⟩ : ∃ x, x = w2 := ⟨_, rfl⟩; have HX := Hid.intro (L5L.next HX.out hb); subst hX2; clear hb s0 s1 s2 sz u0 u1 u2 uz uf1 uf2 z0 z1 z2 zf0 zf1 zf2 zz p0 pz r0 r1 rz rf0 rf1; have s0 := HX.out.1.2.1.cell 0 rfl; have s1 := HX.out.1.2.1.cell 1 rfl; have s2 := HX.out.1.2.1.cell 2 rfl; have u0 := HX.out.1.1.1.1.cell 0 rfl; have u1 := HX.out.1.1.1.1.cell 1 rfl; have u2 := HX.out.1.1.1.1.cell 2 rfl; have z0 := HX.out.1.2.2.1.cell 0 rfl; have z1 := HX.out.1.2.2.1.cell 1 rfl; have z2 := HX.out.1.2.2.1.cell 2 rfl; have sz := HX.out.1.2.1.2; have uz := HX.out.1.1.1.1.2; have zz := HX.out.1.2.2.1.2; have uf1 := HX.out.1.1.1.1.frz 1 (by simp); have uf2 := HX.out.1.1.1.1.frz 2 (by simp); have zf0 := HX.out.1.2.2.1.frz 0 (by simp); have zf1 := HX.out.1.2.2.1.frz 1 (by simp); have zf2 := HX.out.1.2.2.1.frz 2 (by simp); have p0 := HX.out.2.2.1.cell 0 rfl; have pz := HX.out.2.2.1.2; have r0 := HX.out.2.2.2.1.cell 0 rfl; have r1 := HX.out.2.2.2.1.cell 1 rfl; have rz := HX.out.2.2.2.1.2; have rf0 := HX.out.2.2.2.1.frz 0 (by simp); have rf1 := HX.out.2.2.2.1.frz 1 (by simp))
      obtain ⟨Y, hYE⟩ : ∃ x, x = X2.setCell ⟨B + 1, 1, none⟩ (.int .i64 2) := ⟨_, rfl⟩
      have HN := Hid.intro (hYE ▸ L5L.has HX.out 2)
      go_upto_region 54 with fail
      rw [← hYE]
      clear hYE s0 s1 s2 sz u0 u1 u2 uz uf1 uf2 z0 z1 z2 zf0 zf1 zf2 zz p0 pz r0 r1 rz rf0 rf1
      obtain ⟨Z, hZ⟩ : ∃ x, x = (Y.setCell ⟨g, j' * 2, none⟩ (.bool false)).setCell ⟨g, j' * 2 + 1, none⟩ (.int .i64 2) := ⟨_, rfl⟩
      have HZ := Hid.intro (hZ ▸ L5L.put HN.out)
      have HG : Hid (Y.frozen? ⟨g, j' * 2, none⟩ = false ∧ Y.frozen? ⟨g, j' * 2 + 1, none⟩ = false ∧ g < Y.heap.size ∧ Y.cell? ⟨g, j' * 2, none⟩ = some (.bool (rdn y)) ∧ Y.cell? ⟨g, j' * 2 + 1, none⟩ = some (.int .i64 (rhs y))) := Hid.intro ⟨HN.out.2.1.fd, HN.out.2.1.fh, HN.out.2.1.hg, HN.out.2.1.hd, HN.out.2.1.hh⟩
      have HU : Hid (up ≤ w.heap.size) := Hid.intro HN.out.1.2.2.2.2.1
      have s0 := (HN.out.1.2.1).cell 0 rfl; have s1 := (HN.out.1.2.1).cell 1 rfl; have s2 := (HN.out.1.2.1).cell 2 rfl; have sz := (HN.out.1.2.1).2
      have u0 := (HN.out.1.1.1.1).cell 0 rfl; have u1 := (HN.out.1.1.1.1).cell 1 rfl; have u2 := (HN.out.1.1.1.1).cell 2 rfl; have uz := (HN.out.1.1.1.1).2
      have uf1 := HN.out.1.1.1.1.frz 1 (by simp)
      have uf2 := HN.out.1.1.1.1.frz 2 (by simp)
      have z0 := (HN.out.1.2.2.1).cell 0 rfl; have z1 := (HN.out.1.2.2.1).cell 1 rfl; have z2 := (HN.out.1.2.2.1).cell 2 rfl; have zz := (HN.out.1.2.2.1).2
      have zf0 := HN.out.1.2.2.1.frz 0 (by simp)
      have zf1 := HN.out.1.2.2.1.frz 1 (by simp)
      have zf2 := HN.out.1.2.2.1.frz 2 (by simp)
      have zz := HN.out.1.2.2.1.2
      have p0 := (HN.out.2.2.1).cell 0 rfl; have pz := (HN.out.2.2.1).2
      have r0 := (HN.out.2.2.2.1).cell 0 rfl; have r1 := (HN.out.2.2.2.1).cell 1 rfl; have rz := (HN.out.2.2.2.1).2
      have rf0 := HN.out.2.2.2.1.frz 0 (by simp)
      have rf1 := HN.out.2.2.2.1.frz 1 (by simp)
      have gd := HG.out.1
      have gf := HG.out.2.1
      have gz := HG.out.2.2.1
      have g0 := HG.out.2.2.2.1
      have g1 := HG.out.2.2.2.2
      go_upto_region 55 with fail
      rw [← hZ]
      clear hZ s0 s1 s2 sz u0 u1 u2 uz uf1 uf2 z0 z1 z2 zf0 zf1 zf2 zz p0 pz r0 r1 rz rf0 rf1 gd gf gz g0 g1
      have u0 := (HZ.out.1.1.1).cell 0 rfl; have u1 := (HZ.out.1.1.1).cell 1 rfl; have u2 := (HZ.out.1.1.1).cell 2 rfl; have uz := (HZ.out.1.1.1).2
      have z0 := (HZ.out.2.1).cell 0 rfl; have z1 := (HZ.out.2.1).cell 1 rfl; have z2 := (HZ.out.2.1).cell 2 rfl; have zz := (HZ.out.2.1).2
      have zf0 := HZ.out.2.1.frz 0 (by simp)
      have zf1 := HZ.out.2.1.frz 1 (by simp)
      have zf2 := HZ.out.2.1.frz 2 (by simp)
      have zz := HZ.out.2.1.2
      go_wp2
      refine bodyPost_ret (v := .tuple #[.agg #[.slice (some ⟨q, 0, none⟩) ss.length vc, .int .i64 0, .int .i64 0], .bool true]) (by simp [results, Tryd.results38, go_sem, *]) rfl ?_
      exact L5P.yes HE.out HZ.out.1 HZ.out.2.2 (by omega) HU.out
    have hc0 : (h != 0) = true := by simpa using h0
    have hc1 : (h != 1) = true := by simpa using h1
    have HE : Hid (stC ss 0 0 2 (i' : Int) (j' : Int) = none) := Hid.intro (by rw [HS.out, HUP.out, show nxR ss 0 0 (mkS l) j' y 2 = none from by unfold nxR; rw [if_neg (by decide), if_pos rfl]; rw [if_neg (fun q => by rw [HY.out.2] at q; exact q.2.2.elim h0 h1)]]; rfl)
    clear h0 h1
    go_wp2_with (go_at_call 63; refine (l15All_n (some ⟨q, 0, none⟩) vc ss _ _ _ (Nat.le_trans hn (by decide)) (fun s hs => Nat.le_trans (HR.out s hs) (by decide)) HX.out.1.1.lies).mono ?_; rintro r w2 ⟨rfl, hb⟩; rw [HA.out]; obtain ⟨X2, hX2⟩ : ∃ x, x = w2 := ⟨_, rfl⟩; have HX := Hid.intro (L5L.next HX.out hb); subst hX2; clear hb s0 s1 s2 sz u0 u1 u2 uz uf1 uf2 z0 z1 z2 zf0 zf1 zf2 zz p0 pz r0 r1 rz rf0 rf1; have s0 := HX.out.1.2.1.cell 0 rfl; have s1 := HX.out.1.2.1.cell 1 rfl; have s2 := HX.out.1.2.1.cell 2 rfl; have u0 := HX.out.1.1.1.1.cell 0 rfl; have u1 := HX.out.1.1.1.1.cell 1 rfl; have u2 := HX.out.1.1.1.1.cell 2 rfl; have z0 := HX.out.1.2.2.1.cell 0 rfl; have z1 := HX.out.1.2.2.1.cell 1 rfl; have z2 := HX.out.1.2.2.1.cell 2 rfl; have sz := HX.out.1.2.1.2; have uz := HX.out.1.1.1.1.2; have zz := HX.out.1.2.2.1.2; have uf1 := HX.out.1.1.1.1.frz 1 (by simp); have uf2 := HX.out.1.1.1.1.frz 2 (by simp); have zf0 := HX.out.1.2.2.1.frz 0 (by simp); have zf1 := HX.out.1.2.2.1.frz 1 (by simp); have zf2 := HX.out.1.2.2.1.frz 2 (by simp); have p0 := HX.out.2.2.1.cell 0 rfl; have pz := HX.out.2.2.1.2; have r0 := HX.out.2.2.2.1.cell 0 rfl; have r1 := HX.out.2.2.2.1.cell 1 rfl; have rz := HX.out.2.2.2.1.2; have rf0 := HX.out.2.2.2.1.frz 0 (by simp); have rf1 := HX.out.2.2.2.1.frz 1 (by simp))
    refine bodyPost_ret (v := .tuple #[.agg #[.slice (some ⟨q, 0, none⟩) ss.length vc, .int .i64 0, .int .i64 0], .bool false]) (by simp [results, Tryd.results38, go_sem, *]) rfl ?_
    exact L5P.no HE.out HX.out.1.2.2.2.1 (by omega)
  by_cases hk5 : k = 5
  · subst hk5
    have HLX : Hid (Lies X (.list shReplica) [.slice (some ⟨g, 0, none⟩) l.length c3] l ∧ l.length ≤ 1000) := Hid.intro ⟨HX.out.2.1.hl, hln⟩
    go_wp2
    clear s0 s1 s2 sz u0 u1 u2 uz uf1 uf2 z0 z1 z2 zf0 zf1 zf2 zz p0 pz r0 r1 rz rf0 rf1
    go_loopw [145, 9] (fun n m wr => ∃ n' : Nat, n' ≤ l.length ∧ n = .int .i64 n' ∧ m = .int .i64 (((l.take n').countP upB : Nat) : Int) ∧ Below X.heap.size X wr) (fun n _ _ => l.length - (intOf n).toNat)
    case atStart => exact ⟨0, Nat.zero_le _, rfl, rfl, Below.refl _ _⟩
    case round =>
      obtain ⟨n', hn', rfl, hm, hbr⟩ := hrel
      obtain ⟨m, hmE⟩ : ∃ m : Nat, m = (l.take n').countP upB := ⟨_, rfl⟩
      rw [← hmE] at hm
      subst hm
      have HM := Hid.intro hmE
      clear hmE
      have hmn : m ≤ l.length := by rw [HM.out]; exact Nat.le_trans List.countP_le_length (by rw [List.length_take]; omega)
      have HB := Hid.intro hbr
      clear hbr
      by_cases hnl : n' < l.length
      · have hnl' : (n' : Int) < (l.length : Int) := by omega
        have HLE : Hid (Lies wr (.list shReplica) [.slice (some ⟨g, 0, none⟩) l.length c3] l) := Hid.intro (HLX.out.1.next HB.out)
        obtain ⟨xg, xoff, xgo, xgs, xec, xel, xhec, xle⟩ := Lies.elem (HLE.out) hnl
        cases xgo
        rcases xX : l[n'] with ⟨x0, x1, ⟨⟩⟩
        rw [xX] at xle
        have xH : Hid (l[n'] = (x0, x1, ())) := xX
        clear xX
        obtain xev := lies_Replica xle
        subst xev
        have xc0 : wr.cell? ⟨g, 0 + n' * 2, none⟩ = some (.bool x0) := xhec 0 (by simp)
        have xc1 : wr.cell? ⟨g, 0 + n' * 2 + 1, none⟩ = some (.int .i64 x1) := xhec 1 (by simp)
        clear xhec xel xle
        simp only [Nat.zero_add] at xc0 xc1
        have HT : Hid ((l.take (n' + 1)).countP upB = m + if x0 = false then 1 else 0) := Hid.intro (by rw [ups_take hnl, ← HM.out, xH.out]; rfl)
        have HB2 : Hid (Below X.heap.size X (wr.alloc (.cells #[.bool x0, .int .i64 x1] 44))) := Hid.intro (HB.out.alloc HB.out.size _)
        have hwm : IntKind.i64.wrap ((m : Int) + 1) = (m : Int) + 1 := w64f (by omega) (by omega)
        clear HLE xH HM
        cases x0
        · have HT2 : Hid ((l.take (n' + 1)).countP upB = m + 1) := Hid.intro (by rw [HT.out]; rfl)
          go_wp2
          go_roundw
          case rel => exact ⟨n' + 1, by omega, by go_num, by rw [HT2.out]; go_num, HB2.out⟩
          case measure => simp [intOf]; omega
        · have HT2 : Hid ((l.take (n' + 1)).countP upB = m) := Hid.intro (by rw [HT.out]; rfl)
          go_wp2
          go_roundw
          case rel => exact ⟨n' + 1, by omega, by go_num, by rw [HT2.out], HB2.out⟩
          case measure => simp [intOf]; omega
      · have HT : Hid ((l.set j' (mkR true 0)).any upB = !decide (m = 1)) := Hid.intro (by obtain ⟨a, b, e1, e2⟩ := HL.out; rw [ups_other b (by rw [e2]; exact HY.out.1), HM.out, show n' = l.length by omega, List.take_length])
        have HX := Hid.intro (L5L.next HX.out HB.out)
        obtain ⟨X2, hX2⟩ : ∃ x, x = wr := ⟨_, rfl⟩
        subst hX2
        clear HM HB
        have s0 := (HX.out.1.2.1).cell 0 rfl; have s1 := (HX.out.1.2.1).cell 1 rfl; have s2 := (HX.out.1.2.1).cell 2 rfl; have sz := (HX.out.1.2.1).2
        have u0 := (HX.out.1.1.1.1).cell 0 rfl; have u1 := (HX.out.1.1.1.1).cell 1 rfl; have u2 := (HX.out.1.1.1.1).cell 2 rfl; have uz := (HX.out.1.1.1.1).2
        have uf1 := HX.out.1.1.1.1.frz 1 (by simp)
        have uf2 := HX.out.1.1.1.1.frz 2 (by simp)
        have z0 := (HX.out.1.2.2.1).cell 0 rfl; have z1 := (HX.out.1.2.2.1).cell 1 rfl; have z2 := (HX.out.1.2.2.1).cell 2 rfl; have zz := (HX.out.1.2.2.1).2
        have zf0 := HX.out.1.2.2.1.frz 0 (by simp)
        have zf1 := HX.out.1.2.2.1.frz 1 (by simp)
        have zf2 := HX.out.1.2.2.1.frz 2 (by simp)
        have zz := HX.out.1.2.2.1.2
        have p0 := (HX.out.2.2.1).cell 0 rfl; have pz := (HX.out.2.2.1).2
        have r0 := (HX.out.2.2.2.1).cell 0 rfl; have r1 := (HX.out.2.2.2.1).cell 1 rfl; have rz := (HX.out.2.2.2.1).2
        have rf0 := HX.out.2.2.2.1.frz 0 (by simp)
        have rf1 := HX.out.2.2.2.1.frz 1 (by simp)
        by_cases h1 : m = 1
        · subst h1
          have HE : Hid (stC ss 0 0 5 (i' : Int) (j' : Int) = none) := Hid.intro (by rw [HS.out, HUP.out, show nxR ss 0 0 (mkS l) j' y 5 = none from by unfold nxR; rw [if_neg (by decide), if_neg (by decide), if_pos rfl]; rw [if_neg (fun q => by have q : (l.set j' (mkR true 0)).any upB = true := q; rw [HT.out] at q; cases q)]]; rfl)
          go_wp2
          refine bodyPost_ret (v := .tuple #[.agg #[.slice (some ⟨q, 0, none⟩) ss.length vc, .int .i64 0, .int .i64 0], .bool false]) (by simp [results, Tryd.results38, go_sem, *]) rfl ?_
          exact L5P.no HE.out HX.out.1.2.2.2.1 (by omega)
        have h1q : ((m : Int) == 1) = false := by simp; omega
        have HE : Hid (stC ss 0 0 5 (i' : Int) (j' : Int) = some (ss.set i' (mkS (l.set j' (mkR true 0))), 0, 0)) := Hid.intro (by rw [HS.out, HUP.out, show nxR ss 0 0 (mkS l) j' y 5 = some (mkR true 0) from by unfold nxR; rw [if_neg (by decide), if_neg (by decide), if_pos rfl]; rw [if_pos (show ((srs (mkS l)).set j' (mkR true 0)).any upB = true from by rw [srs_mk, HT.out, decide_eq_false h1]; rfl)]]; rfl)
        obtain ⟨Y, hYE⟩ : ∃ x, x = (X2.setCell ⟨B + 1, 0, none⟩ (.bool true)).setCell ⟨B + 1, 1, none⟩ (.int .i64 0) := ⟨_, rfl⟩
        have HN := Hid.intro (hYE ▸ L5L.has (L5L.down HX.out true) 0)
        go_upto_region 54 with fail
        rw [← hYE]
        clear hYE s0 s1 s2 sz u0 u1 u2 uz uf1 uf2 z0 z1 z2 zf0 zf1 zf2 zz p0 pz r0 r1 rz rf0 rf1
        obtain ⟨Z, hZ⟩ : ∃ x, x = (Y.setCell ⟨g, j' * 2, none⟩ (.bool true)).setCell ⟨g, j' * 2 + 1, none⟩ (.int .i64 0) := ⟨_, rfl⟩
        have HZ := Hid.intro (hZ ▸ L5L.put HN.out)
        have HG : Hid (Y.frozen? ⟨g, j' * 2, none⟩ = false ∧ Y.frozen? ⟨g, j' * 2 + 1, none⟩ = false ∧ g < Y.heap.size ∧ Y.cell? ⟨g, j' * 2, none⟩ = some (.bool (rdn y)) ∧ Y.cell? ⟨g, j' * 2 + 1, none⟩ = some (.int .i64 (rhs y))) := Hid.intro ⟨HN.out.2.1.fd, HN.out.2.1.fh, HN.out.2.1.hg, HN.out.2.1.hd, HN.out.2.1.hh⟩
        have HU : Hid (up ≤ w.heap.size) := Hid.intro HN.out.1.2.2.2.2.1
        have s0 := (HN.out.1.2.1).cell 0 rfl; have s1 := (HN.out.1.2.1).cell 1 rfl; have s2 := (HN.out.1.2.1).cell 2 rfl; have sz := (HN.out.1.2.1).2
        have u0 := (HN.out.1.1.1.1).cell 0 rfl; have u1 := (HN.out.1.1.1.1).cell 1 rfl; have u2 := (HN.out.1.1.1.1).cell 2 rfl; have uz := (HN.out.1.1.1.1).2
        have uf1 := HN.out.1.1.1.1.frz 1 (by simp)
        have uf2 := HN.out.1.1.1.1.frz 2 (by simp)
        have z0 := (HN.out.1.2.2.1).cell 0 rfl; have z1 := (HN.out.1.2.2.1).cell 1 rfl; have z2 := (HN.out.1.2.2.1).cell 2 rfl; have zz := (HN.out.1.2.2.1).2
        have zf0 := HN.out.1.2.2.1.frz 0 (by simp)
        have zf1 := HN.out.1.2.2.1.frz 1 (by simp)
        have zf2 := HN.out.1.2.2.1.frz 2 (by simp)
        have zz := HN.out.1.2.2.1.2
        have p0 := (HN.out.2.2.1).cell 0 rfl; have pz := (HN.out.2.2.1).2
        have r0 := (HN.out.2.2.2.1).cell 0 rfl; have r1 := (HN.out.2.2.2.1).cell 1 rfl; have rz := (HN.out.2.2.2.1).2
        have rf0 := HN.out.2.2.2.1.frz 0 (by simp)
        have rf1 := HN.out.2.2.2.1.frz 1 (by simp)
        have gd := HG.out.1
        have gf := HG.out.2.1
        have gz := HG.out.2.2.1
        have g0 := HG.out.2.2.2.1
        have g1 := HG.out.2.2.2.2
        go_upto_region 55 with fail
        rw [← hZ]
        clear hZ s0 s1 s2 sz u0 u1 u2 uz uf1 uf2 z0 z1 z2 zf0 zf1 zf2 zz p0 pz r0 r1 rz rf0 rf1 gd gf gz g0 g1
        have u0 := (HZ.out.1.1.1).cell 0 rfl; have u1 := (HZ.out.1.1.1).cell 1 rfl; have u2 := (HZ.out.1.1.1).cell 2 rfl; have uz := (HZ.out.1.1.1).2
        have z0 := (HZ.out.2.1).cell 0 rfl; have z1 := (HZ.out.2.1).cell 1 rfl; have z2 := (HZ.out.2.1).cell 2 rfl; have zz := (HZ.out.2.1).2
        have zf0 := HZ.out.2.1.frz 0 (by simp)
        have zf1 := HZ.out.2.1.frz 1 (by simp)
        have zf2 := HZ.out.2.1.frz 2 (by simp)
        have zz := HZ.out.2.1.2
        go_wp2
        refine bodyPost_ret (v := .tuple #[.agg #[.slice (some ⟨q, 0, none⟩) ss.length vc, .int .i64 0, .int .i64 0], .bool true]) (by simp [results, Tryd.results38, go_sem, *]) rfl ?_
        exact L5P.yes HE.out HZ.out.1 HZ.out.2.2 (by omega) HU.out
  by_cases hk7 : k = 7
  · subst hk7
    have HDD : Hid (decN 0 0 = 0) := Hid.intro (decN_zero.2 ⟨rfl, rfl⟩)
    have HE : Hid (stC ss 0 0 7 (i' : Int) (j' : Int) = none) := Hid.intro (by rw [HS.out, HUP.out, show nxR ss 0 0 (mkS l) j' y 7 = none from by unfold nxR; rw [if_neg (by decide), if_neg (by decide), if_neg (by decide), if_pos rfl]; rw [if_neg (fun q => q.1 HDD.out)]]; rfl)
    go_wp2_with (go_at_call 64; refine (l15Decision_n _ ⟨_, _, _, rfl⟩ _ _ _ _ HDD.out).mono ?_; rintro r w3 ⟨rfl, hb⟩; obtain ⟨X2, hX2⟩ : ∃ x, x = w3 := ⟨_, rfl⟩; have HX := Hid.intro (L5L.next HX.out hb); subst hX2; clear hb s0 s1 s2 sz u0 u1 u2 uz uf1 uf2 z0 z1 z2 zf0 zf1 zf2 zz p0 pz r0 r1 rz rf0 rf1; have s0 := HX.out.1.2.1.cell 0 rfl; have s1 := HX.out.1.2.1.cell 1 rfl; have s2 := HX.out.1.2.1.cell 2 rfl; have u0 := HX.out.1.1.1.1.cell 0 rfl; have u1 := HX.out.1.1.1.1.cell 1 rfl; have u2 := HX.out.1.1.1.1.cell 2 rfl; have z0 := HX.out.1.2.2.1.cell 0 rfl; have z1 := HX.out.1.2.2.1.cell 1 rfl; have z2 := HX.out.1.2.2.1.cell 2 rfl; have sz := HX.out.1.2.1.2; have uz := HX.out.1.1.1.1.2; have zz := HX.out.1.2.2.1.2; have uf1 := HX.out.1.1.1.1.frz 1 (by simp); have uf2 := HX.out.1.1.1.1.frz 2 (by simp); have zf0 := HX.out.1.2.2.1.frz 0 (by simp); have zf1 := HX.out.1.2.2.1.frz 1 (by simp); have zf2 := HX.out.1.2.2.1.frz 2 (by simp); have p0 := HX.out.2.2.1.cell 0 rfl; have pz := HX.out.2.2.1.2; have r0 := HX.out.2.2.2.1.cell 0 rfl; have r1 := HX.out.2.2.2.1.cell 1 rfl; have rz := HX.out.2.2.2.1.2; have rf0 := HX.out.2.2.2.1.frz 0 (by simp); have rf1 := HX.out.2.2.2.1.frz 1 (by simp))
    refine bodyPost_ret (v := .tuple #[.agg #[.slice (some ⟨q, 0, none⟩) ss.length vc, .int .i64 0, .int .i64 0], .bool false]) (by simp [results, Tryd.results38, go_sem, *]) rfl ?_
    exact L5P.no HE.out HX.out.1.2.2.2.1 (by omega)
  have HE : Hid (stC ss 0 0 k (i' : Int) (j' : Int) = none) := Hid.intro (by rw [HS.out]; exact stR_none hk1 hk2 hk5 hk7)
  have q1 : (k == 1) = false := by simpa using hk1
  have q2 : (k == 2) = false := by simpa using hk2
  have q5 : (k == 5) = false := by simpa using hk5
  have q7 : (k == 7) = false := by simpa using hk7
  clear hk1 hk2 hk5 hk7
  go_wp2
  refine bodyPost_ret (v := .tuple #[.agg #[.slice (some ⟨q, 0, none⟩) ss.length vc, .int .i64 0, .int .i64 0], .bool false]) (by simp [results, Tryd.results38, go_sem, *]) rfl ?_
  exact L5P.no HE.out HX.out.1.2.2.2.1 (by omega)

end Go.Proofs.YtkpobihpcnoemaaDoor
