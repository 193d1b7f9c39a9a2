/- Commits: mustBeOpen, mustBeUp. Written by tools/mkCpB.py. -/
import Derived.Test.YtkpobihpcnoemaaDoorGaI
import Derived.Test.YtkpobihpcnoemaaDoorCmV
namespace Go.Proofs.YtkpobihpcnoemaaDoor
open Go.RowKit
set_option linter.unusedVariables false
set_option linter.unusedSimpArgs false

theorem w64f {n : Int} (h0 : -9223372036854775808 ≤ n) (h1 : n ≤ 9223372036854775807) : IntKind.i64.wrap n = n := by
  rw [IntKind.wrap_i64]; omega

set_option maxRecDepth 100000 in
set_option maxHeartbeats 2000000 in
theorem mustBeOpen_y (b : Nat) (a : Option Addr) (m c : Nat) (dr rc : Int) (w : World) (hd : decN dr rc = 0) (hx : Bx w b [.slice a m c, .int .i64 dr, .int .i64 rc]) :
    Calls Tryd.prog 89 #[.pointer (some ⟨b, 0, none⟩)] w fun r w' => r = .returned (.tuple #[]) ∧ Below w.heap.size w w' := by
  have HD := Hid.intro hd
  clear hd
  have s0 := (hx).cell 0 rfl; have s1 := (hx).cell 1 rfl; have s2 := (hx).cell 2 rfl; have sz := (hx).2
  go_enter Tryd.func89, Tryd.ntmps89
  go_wp2_with (first | (go_at_call 40; refine (decisionIn_n _ ⟨_, _, _, rfl⟩ dr rc _ _ HD.out).mono ?_; rintro r w1 ⟨rfl, hb⟩; have HB := Hid.intro hb; clear hb) | (go_at_call 85; refine (must_yes _).mono ?_; rintro r w2 ⟨rfl, hw⟩; subst hw))
  first | (go_end0; exact ⟨rfl, HB.out⟩) | exact bodyPost_ret (v := .tuple #[]) (by simp [results, Tryd.results89]) rfl ⟨rfl, HB.out⟩

set_option maxRecDepth 100000 in
set_option maxHeartbeats 2000000 in
theorem mustBeOpen_n (b : Nat) (a : Option Addr) (m c : Nat) (dr rc : Int) (w : World) (hd : ¬ decN dr rc = 0) (hf : Flt w) (hx : Bx w b [.slice a m c, .int .i64 dr, .int .i64 rc]) :
    Calls Tryd.prog 89 #[.pointer (some ⟨b, 0, none⟩)] w fun r w' => Gup r ∧ Below w.heap.size w w' := by
  have HF := Hid.intro hf
  obtain ⟨d, hdd⟩ : ∃ d, decN dr rc = d := ⟨_, rfl⟩
  rw [hdd] at hd
  have HD := Hid.intro hdd
  have hq : (d == 0) = false := by simpa using hd
  clear hdd hf
  have s0 := (hx).cell 0 rfl; have s1 := (hx).cell 1 rfl; have s2 := (hx).cell 2 rfl; have sz := (hx).2
  go_enter Tryd.func89, Tryd.ntmps89
  go_wp2_with (first | (go_at_call 40; refine (decisionIn_n _ ⟨_, _, _, rfl⟩ dr rc _ _ HD.out).mono ?_; rintro r w1 ⟨rfl, hb⟩; have HB := Hid.intro hb; clear hb) | (go_at_call 85; refine (must_no _ (HF.out.next HB.out HF.out.lt)).mono ?_; rintro r w2 ⟨⟨p, rfl⟩, hw⟩; subst hw))
  exact ⟨rfl, ⟨p, rfl⟩, HB.out⟩

set_option maxRecDepth 100000 in
set_option maxHeartbeats 2000000 in
theorem mustBeUp_no (b : Nat) (a : Option Addr) (m c : Nat) (i j : Int) (dr rc k : Int) (w : World) (hm : m ≤ 1000) (hir : inR i 0 ((m : Int) - 1) = false) (hf : Flt w) (hx : Bx w b [.slice a m c, .int .i64 dr, .int .i64 rc]) :
    Calls Tryd.prog 90 #[.pointer (some ⟨b, 0, none⟩), .agg #[.int .i64 k, .int .i64 i, .int .i64 j]] w fun r w' => Gup r ∧ Below w.heap.size w w' := by
  obtain ⟨w0, hw0⟩ : ∃ x, x = w.alloc (.cells #[.int .i64 k, .int .i64 i, .int .i64 j] 48) := ⟨_, rfl⟩
  have hb0 : Below w.heap.size w w0 := hw0 ▸ Go.Joins.below_alloc1 _ _
  have HB0 : Hid (Bx w0 w.heap.size [.int .i64 k, .int .i64 i, .int .i64 j] ∧ Bx w0 b [.slice a m c, .int .i64 dr, .int .i64 rc] ∧ Below w.heap.size w w0) := ⟨hw0 ▸ Bx.new w [_, _, _] _, hx.next hb0, hb0⟩
  have HF := Hid.intro hf
  have hwr : IntKind.i64.wrap ((m : Int) - 1) = (m : Int) - 1 := w64f (by omega) (by omega)
  clear hf
  have HD : Hid (Bx w0.drew w.heap.size [.int .i64 k, .int .i64 i, .int .i64 j] ∧ Bx w0.drew b [.slice a m c, .int .i64 dr, .int .i64 rc] ∧ Below w.heap.size w w0.drew) := ⟨HB0.out.1.next (below_drew _), HB0.out.2.1.next (below_drew _), below_next HB0.out.2.2 (below_drew _)⟩
  clear hb0 hx
  go_enter Tryd.func90, Tryd.ntmps90
  go_upto_region 1 with fail
  rw [← hw0]
  clear hw0 HB0
  refine wp_region_held_drew (S := fun W => Bx W w.heap.size [.int .i64 k, .int .i64 i, .int .i64 j] ∧ Bx W b [.slice a m c, .int .i64 dr, .int .i64 rc]) (by kernel_rfl) ⟨HD.out.1, HD.out.2.1⟩ (fun hHeld => ?_)
  obtain ⟨W, hWE⟩ : ∃ x, x = w0.drew := ⟨_, rfl⟩
  rw [← hWE] at HD hHeld ⊢
  clear hWE
  refine take_vp (v := ?_) 0 ⟨some 6, Op.fieldAddr 48 (Operand.tmp 3) 1, _, _, _, none⟩ rfl (fun _ _ _ h => h) ?_ hHeld ?_
  rotate_left
  · (intro W _; go_simp <;> (try with_reducible rfl))
  refine take_vp (v := ?_) 1 ⟨some 7, Op.load 3 (Operand.tmp 6), _, _, _, none⟩ rfl (fun _ _ _ h => h) ?_ hHeld ?_
  rotate_left
  · (intro W hSW; (have s0 := hSW.1.cell 0 rfl; have s1 := hSW.1.cell 1 rfl; have s2 := hSW.1.cell 2 rfl; have sz := hSW.1.2; have u0 := hSW.2.cell 0 rfl; have u1 := hSW.2.cell 1 rfl; have u2 := hSW.2.cell 2 rfl; have uz := hSW.2.2); go_simp <;> (try with_reducible rfl))
  refine take_vp (v := ?_) 2 ⟨some 8, Op.move (Operand.tmp 0), _, _, _, none⟩ rfl (fun _ _ _ h => h) ?_ hHeld ?_
  rotate_left
  · (intro W _; go_simp <;> (try with_reducible rfl))
  refine take_vp (v := ?_) 3 ⟨some 9, Op.nilCheck (Operand.tmp 8), _, _, _, none⟩ rfl (fun _ _ _ h => h) ?_ hHeld ?_
  rotate_left
  · (intro W _; go_simp <;> (try with_reducible rfl))
  refine take_vp (v := ?_) 4 ⟨some 10, Op.fieldAddr 29 (Operand.tmp 9) 0, _, _, _, none⟩ rfl (fun _ _ _ h => h) ?_ hHeld ?_
  rotate_left
  · (intro W _; go_simp <;> (try with_reducible rfl))
  refine take_vp (v := ?_) 5 ⟨some 11, Op.load 27 (Operand.tmp 10), _, _, _, none⟩ rfl (fun _ _ _ h => h) ?_ hHeld ?_
  rotate_left
  · (intro W hSW; (have s0 := hSW.1.cell 0 rfl; have s1 := hSW.1.cell 1 rfl; have s2 := hSW.1.cell 2 rfl; have sz := hSW.1.2; have u0 := hSW.2.cell 0 rfl; have u1 := hSW.2.cell 1 rfl; have u2 := hSW.2.cell 2 rfl; have uz := hSW.2.2); go_simp <;> (try with_reducible rfl))
  refine take_vp (v := ?_) 6 ⟨some 12, Op.call { callee := Callee.builtin Builtin.len, args := #[Operand.tmp 11], argTypes := #[27] }, _, _, _, none⟩ rfl (fun _ _ _ h => h) ?_ hHeld ?_
  rotate_left
  · (intro W _; go_simp <;> (try with_reducible rfl))
  refine take_vp (v := ?_) 7 ⟨some 13, Op.binOp BinOp.sub 3 (Operand.tmp 12) (Operand.const (Value.int IntKind.i64 1)) 3, _, _, _, none⟩ rfl (fun _ _ _ h => h) ?_ hHeld ?_
  rotate_left
  · (intro W _; go_simp <;> (try with_reducible rfl))
  refine ready_call 8 ⟨some 14, Op.call { callee := Callee.value (Operand.func 45), args := #[Operand.tmp 7, Operand.const (Value.int IntKind.i64 0), Operand.tmp 13], argTypes := #[3, 3, 3] }, _, _, _, none⟩ (by kernel_rfl) rfl (by kernel_rfl) (fun KC hK => ?_)
  go_wp2_with fail
  refine (inRange_any _ _ _ _).mono ?_
  rintro e w' ⟨rfl, hw⟩
  have hw := hw.symm
  subst hw
  rw [hir]
  refine hK.out _ _ ⟨HD.out.1, HD.out.2.1⟩ (fun hHeld => ?_)
  clear hK KC
  refine ready_call 9 ⟨some 15, Op.call { callee := Callee.value (Operand.func 85), args := #[Operand.tmp 14], argTypes := #[4] }, _, _, _, none⟩ (by kernel_rfl) rfl (by kernel_rfl) (fun KC hK => ?_)
  go_wp2_with fail
  refine (must_no _ (HF.out.next HD.out.2.2 HF.out.lt)).mono ?_
  rintro r w2 ⟨⟨p, rfl⟩, hw⟩
  subst hw
  exact ⟨rfl, ⟨p, rfl⟩, HD.out.2.2⟩

set_option maxRecDepth 100000 in
set_option maxHeartbeats 2000000 in
theorem mustBeUp_nj (b : Nat) (q m c n c2 i : Nat) (ag : Option Addr) (j : Int) (dr rc k : Int) (w : World) (hm : m ≤ 1000) (hn : n ≤ 1000) (hi : i < m) (hjr : inR j 0 ((n : Int) - 1) = false) (hs : w.cell? ⟨q, i, none⟩ = some (.slice ag n c2)) (hq : q < w.heap.size) (hf : Flt w) (hx : Bx w b [.slice (some ⟨q, 0, none⟩) m c, .int .i64 dr, .int .i64 rc]) :
    Calls Tryd.prog 90 #[.pointer (some ⟨b, 0, none⟩), .agg #[.int .i64 k, .int .i64 i, .int .i64 j]] w fun r w' => Gup r ∧ Below w.heap.size w w' := by
  obtain ⟨w0, hw0⟩ : ∃ x, x = w.alloc (.cells #[.int .i64 k, .int .i64 i, .int .i64 j] 48) := ⟨_, rfl⟩
  have hb0 : Below w.heap.size w w0 := hw0 ▸ Go.Joins.below_alloc1 _ _
  have HB0 : Hid (Bx w0 w.heap.size [.int .i64 k, .int .i64 i, .int .i64 j] ∧ Bx w0 b [.slice (some ⟨q, 0, none⟩) m c, .int .i64 dr, .int .i64 rc] ∧ Below w.heap.size w w0) := ⟨hw0 ▸ Bx.new w [_, _, _] _, hx.next hb0, hb0⟩
  have HF := Hid.intro hf
  have hwn : IntKind.i64.wrap ((n : Int) - 1) = (n : Int) - 1 := w64f (by omega) (by omega)
  clear hf
  have hir : inR (i : Int) 0 ((m : Int) - 1) = true := inR_iff.2 (by omega)
  have hwr : IntKind.i64.wrap ((m : Int) - 1) = (m : Int) - 1 := w64f (by omega) (by omega)
  have HQ : Hid (w.cell? ⟨q, i, none⟩ = some (.slice ag n c2) ∧ q < w.heap.size) := ⟨hs, hq⟩
  clear hs hq
  have HD : Hid (Bx w0.drew w.heap.size [.int .i64 k, .int .i64 i, .int .i64 j] ∧ Bx w0.drew b [.slice (some ⟨q, 0, none⟩) m c, .int .i64 dr, .int .i64 rc] ∧ Below w.heap.size w w0.drew) := ⟨HB0.out.1.next (below_drew _), HB0.out.2.1.next (below_drew _), below_next HB0.out.2.2 (below_drew _)⟩
  clear hb0 hx
  go_enter Tryd.func90, Tryd.ntmps90
  go_upto_region 1 with fail
  rw [← hw0]
  clear hw0 HB0
  refine wp_region_noPanic ?_
  refine wp_region_held_drew (S := fun W => Bx W w.heap.size [.int .i64 k, .int .i64 i, .int .i64 j] ∧ Bx W b [.slice (some ⟨q, 0, none⟩) m c, .int .i64 dr, .int .i64 rc]) (by kernel_rfl) ⟨HD.out.1, HD.out.2.1⟩ (fun hHeld => ?_)
  obtain ⟨W, hWE⟩ : ∃ x, x = w0.drew := ⟨_, rfl⟩
  rw [← hWE] at HD hHeld ⊢
  clear hWE
  refine take_v (v := ?_) 0 ⟨some 6, Op.fieldAddr 48 (Operand.tmp 3) 1, _, _, _, none⟩ rfl (fun _ _ _ h => h) ?_ hHeld ?_
  rotate_left
  · (intro W _; go_simp <;> (try with_reducible rfl))
  refine take_v (v := ?_) 1 ⟨some 7, Op.load 3 (Operand.tmp 6), _, _, _, none⟩ rfl (fun _ _ _ h => h) ?_ hHeld ?_
  rotate_left
  · (intro W hSW; (have s0 := hSW.1.cell 0 rfl; have s1 := hSW.1.cell 1 rfl; have s2 := hSW.1.cell 2 rfl; have sz := hSW.1.2; have u0 := hSW.2.cell 0 rfl; have u1 := hSW.2.cell 1 rfl; have u2 := hSW.2.cell 2 rfl; have uz := hSW.2.2); go_simp <;> (try with_reducible rfl))
  refine take_v (v := ?_) 2 ⟨some 8, Op.move (Operand.tmp 0), _, _, _, none⟩ rfl (fun _ _ _ h => h) ?_ hHeld ?_
  rotate_left
  · (intro W _; go_simp <;> (try with_reducible rfl))
  refine take_v (v := ?_) 3 ⟨some 9, Op.nilCheck (Operand.tmp 8), _, _, _, none⟩ rfl (fun _ _ _ h => h) ?_ hHeld ?_
  rotate_left
  · (intro W _; go_simp <;> (try with_reducible rfl))
  refine take_v (v := ?_) 4 ⟨some 10, Op.fieldAddr 29 (Operand.tmp 9) 0, _, _, _, none⟩ rfl (fun _ _ _ h => h) ?_ hHeld ?_
  rotate_left
  · (intro W _; go_simp <;> (try with_reducible rfl))
  refine take_v (v := ?_) 5 ⟨some 11, Op.load 27 (Operand.tmp 10), _, _, _, none⟩ rfl (fun _ _ _ h => h) ?_ hHeld ?_
  rotate_left
  · (intro W hSW; (have s0 := hSW.1.cell 0 rfl; have s1 := hSW.1.cell 1 rfl; have s2 := hSW.1.cell 2 rfl; have sz := hSW.1.2; have u0 := hSW.2.cell 0 rfl; have u1 := hSW.2.cell 1 rfl; have u2 := hSW.2.cell 2 rfl; have uz := hSW.2.2); go_simp <;> (try with_reducible rfl))
  refine take_v (v := ?_) 6 ⟨some 12, Op.call { callee := Callee.builtin Builtin.len, args := #[Operand.tmp 11], argTypes := #[27] }, _, _, _, none⟩ rfl (fun _ _ _ h => h) ?_ hHeld ?_
  rotate_left
  · (intro W _; go_simp <;> (try with_reducible rfl))
  refine take_v (v := ?_) 7 ⟨some 13, Op.binOp BinOp.sub 3 (Operand.tmp 12) (Operand.const (Value.int IntKind.i64 1)) 3, _, _, _, none⟩ rfl (fun _ _ _ h => h) ?_ hHeld ?_
  rotate_left
  · (intro W _; go_simp <;> (try with_reducible rfl))
  refine ready_call 8 ⟨some 14, Op.call { callee := Callee.value (Operand.func 45), args := #[Operand.tmp 7, Operand.const (Value.int IntKind.i64 0), Operand.tmp 13], argTypes := #[3, 3, 3] }, _, _, _, none⟩ (by kernel_rfl) rfl (by kernel_rfl) (fun KC hK => ?_)
  go_wp2_with fail
  refine (inRange_any _ _ _ _).mono ?_
  rintro e w' ⟨rfl, hw⟩
  have hw := hw.symm
  subst hw
  rw [hir]
  refine hK.out _ _ ⟨HD.out.1, HD.out.2.1⟩ (fun hHeld => ?_)
  clear hK KC
  refine ready_call 9 ⟨some 15, Op.call { callee := Callee.value (Operand.func 85), args := #[Operand.tmp 14], argTypes := #[4] }, _, _, _, none⟩ (by kernel_rfl) rfl (by kernel_rfl) (fun KC hK => ?_)
  go_wp2_with fail
  refine (must_yes _).mono ?_
  rintro r w2 ⟨rfl, hw⟩
  have hw := hw.symm
  subst hw
  refine hK.out _ _ ⟨HD.out.1, HD.out.2.1⟩ (fun hHeld => ?_)
  clear hK KC
  refine wpAnyH_done (by kernel_rfl) ?_ _
  refine NoPanic.normal ?_
  clear hHeld
  have s0 := (HD.out.1).cell 0 rfl; have s1 := (HD.out.1).cell 1 rfl; have s2 := (HD.out.1).cell 2 rfl; have sz := (HD.out.1).2
  have u0 := (HD.out.2.1).cell 0 rfl; have u1 := (HD.out.2.1).cell 1 rfl; have u2 := (HD.out.2.1).cell 2 rfl; have uz := (HD.out.2.1).2
  have i0 : (0 : Int) ≤ (i : Int) ∧ (i : Int) < (m : Int) := by omega
  have qs := ((HD.out.2.2).cell (p := ⟨q, i, none⟩) HQ.out.2).trans HQ.out.1
  go_upto_region 2 with fail
  go_region
  go_wp2_with (first | (go_at_call 45; refine (inRange_any _ _ _ _).mono ?_; rintro e w' ⟨rfl, hw⟩; have hw := hw.symm; subst hw; rw [hjr]) | (go_at_call 85; refine (must_no _ (HF.out.next (below_next HD.out.2.2 (below_drew _)) HF.out.lt)).mono ?_; rintro r w2 ⟨⟨p, rfl⟩, hw⟩; subst hw))
  exact ⟨rfl, ⟨p, rfl⟩, below_next HD.out.2.2 (below_drew _)⟩

set_option maxRecDepth 100000 in
set_option maxHeartbeats 2000000 in
theorem mustBeUp_dn (b : Nat) (q m c n c2 i j g : Nat) (h : Int) (dr rc k : Int) (w : World) (hm : m ≤ 1000) (hn : n ≤ 1000) (hi : i < m) (hj : j < n) (hs : w.cell? ⟨q, i, none⟩ = some (.slice (some ⟨g, 0, none⟩) n c2)) (hq : q < w.heap.size) (h0 : w.cell? ⟨g, j * 2, none⟩ = some (.bool true)) (h1 : w.cell? ⟨g, j * 2 + 1, none⟩ = some (.int .i64 h)) (hg : g < w.heap.size) (hf : Flt w) (hx : Bx w b [.slice (some ⟨q, 0, none⟩) m c, .int .i64 dr, .int .i64 rc]) :
    Calls Tryd.prog 90 #[.pointer (some ⟨b, 0, none⟩), .agg #[.int .i64 k, .int .i64 i, .int .i64 j]] w fun r w' => Gup r ∧ Below w.heap.size w w' := by
  obtain ⟨w0, hw0⟩ : ∃ x, x = w.alloc (.cells #[.int .i64 k, .int .i64 i, .int .i64 j] 48) := ⟨_, rfl⟩
  have hb0 : Below w.heap.size w w0 := hw0 ▸ Go.Joins.below_alloc1 _ _
  have HB0 : Hid (Bx w0 w.heap.size [.int .i64 k, .int .i64 i, .int .i64 j] ∧ Bx w0 b [.slice (some ⟨q, 0, none⟩) m c, .int .i64 dr, .int .i64 rc] ∧ Below w.heap.size w w0) := ⟨hw0 ▸ Bx.new w [_, _, _] _, hx.next hb0, hb0⟩
  have HF := Hid.intro hf
  clear hf
  have hwn : IntKind.i64.wrap ((n : Int) - 1) = (n : Int) - 1 := w64f (by omega) (by omega)
  have hjr : inR (j : Int) 0 ((n : Int) - 1) = true := inR_iff.2 (by omega)
  have HG : Hid (w.cell? ⟨g, j * 2, none⟩ = some (.bool true) ∧ w.cell? ⟨g, j * 2 + 1, none⟩ = some (.int .i64 h) ∧ g < w.heap.size) := ⟨h0, h1, hg⟩
  clear h0 h1 hg
  have hir : inR (i : Int) 0 ((m : Int) - 1) = true := inR_iff.2 (by omega)
  have hwr : IntKind.i64.wrap ((m : Int) - 1) = (m : Int) - 1 := w64f (by omega) (by omega)
  have HQ : Hid (w.cell? ⟨q, i, none⟩ = some (.slice (some ⟨g, 0, none⟩) n c2) ∧ q < w.heap.size) := ⟨hs, hq⟩
  clear hs hq
  have HD : Hid (Bx w0.drew w.heap.size [.int .i64 k, .int .i64 i, .int .i64 j] ∧ Bx w0.drew b [.slice (some ⟨q, 0, none⟩) m c, .int .i64 dr, .int .i64 rc] ∧ Below w.heap.size w w0.drew) := ⟨HB0.out.1.next (below_drew _), HB0.out.2.1.next (below_drew _), below_next HB0.out.2.2 (below_drew _)⟩
  clear hb0 hx
  go_enter Tryd.func90, Tryd.ntmps90
  go_upto_region 1 with fail
  rw [← hw0]
  clear hw0 HB0
  refine wp_region_noPanic ?_
  refine wp_region_held_drew (S := fun W => Bx W w.heap.size [.int .i64 k, .int .i64 i, .int .i64 j] ∧ Bx W b [.slice (some ⟨q, 0, none⟩) m c, .int .i64 dr, .int .i64 rc]) (by kernel_rfl) ⟨HD.out.1, HD.out.2.1⟩ (fun hHeld => ?_)
  obtain ⟨W, hWE⟩ : ∃ x, x = w0.drew := ⟨_, rfl⟩
  rw [← hWE] at HD hHeld ⊢
  clear hWE
  refine take_v (v := ?_) 0 ⟨some 6, Op.fieldAddr 48 (Operand.tmp 3) 1, _, _, _, none⟩ rfl (fun _ _ _ h => h) ?_ hHeld ?_
  rotate_left
  · (intro W _; go_simp <;> (try with_reducible rfl))
  refine take_v (v := ?_) 1 ⟨some 7, Op.load 3 (Operand.tmp 6), _, _, _, none⟩ rfl (fun _ _ _ h => h) ?_ hHeld ?_
  rotate_left
  · (intro W hSW; (have s0 := hSW.1.cell 0 rfl; have s1 := hSW.1.cell 1 rfl; have s2 := hSW.1.cell 2 rfl; have sz := hSW.1.2; have u0 := hSW.2.cell 0 rfl; have u1 := hSW.2.cell 1 rfl; have u2 := hSW.2.cell 2 rfl; have uz := hSW.2.2); go_simp <;> (try with_reducible rfl))
  refine take_v (v := ?_) 2 ⟨some 8, Op.move (Operand.tmp 0), _, _, _, none⟩ rfl (fun _ _ _ h => h) ?_ hHeld ?_
  rotate_left
  · (intro W _; go_simp <;> (try with_reducible rfl))
  refine take_v (v := ?_) 3 ⟨some 9, Op.nilCheck (Operand.tmp 8), _, _, _, none⟩ rfl (fun _ _ _ h => h) ?_ hHeld ?_
  rotate_left
  · (intro W _; go_simp <;> (try with_reducible rfl))
  refine take_v (v := ?_) 4 ⟨some 10, Op.fieldAddr 29 (Operand.tmp 9) 0, _, _, _, none⟩ rfl (fun _ _ _ h => h) ?_ hHeld ?_
  rotate_left
  · (intro W _; go_simp <;> (try with_reducible rfl))
  refine take_v (v := ?_) 5 ⟨some 11, Op.load 27 (Operand.tmp 10), _, _, _, none⟩ rfl (fun _ _ _ h => h) ?_ hHeld ?_
  rotate_left
  · (intro W hSW; (have s0 := hSW.1.cell 0 rfl; have s1 := hSW.1.cell 1 rfl; have s2 := hSW.1.cell 2 rfl; have sz := hSW.1.2; have u0 := hSW.2.cell 0 rfl; have u1 := hSW.2.cell 1 rfl; have u2 := hSW.2.cell 2 rfl; have uz := hSW.2.2); go_simp <;> (try with_reducible rfl))
  refine take_v (v := ?_) 6 ⟨some 12, Op.call { callee := Callee.builtin Builtin.len, args := #[Operand.tmp 11], argTypes := #[27] }, _, _, _, none⟩ rfl (fun _ _ _ h => h) ?_ hHeld ?_
  rotate_left
  · (intro W _; go_simp <;> (try with_reducible rfl))
  refine take_v (v := ?_) 7 ⟨some 13, Op.binOp BinOp.sub 3 (Operand.tmp 12) (Operand.const (Value.int IntKind.i64 1)) 3, _, _, _, none⟩ rfl (fun _ _ _ h => h) ?_ hHeld ?_
  rotate_left
  · (intro W _; go_simp <;> (try with_reducible rfl))
  refine ready_call 8 ⟨some 14, Op.call { callee := Callee.value (Operand.func 45), args := #[Operand.tmp 7, Operand.const (Value.int IntKind.i64 0), Operand.tmp 13], argTypes := #[3, 3, 3] }, _, _, _, none⟩ (by kernel_rfl) rfl (by kernel_rfl) (fun KC hK => ?_)
  go_wp2_with fail
  refine (inRange_any _ _ _ _).mono ?_
  rintro e w' ⟨rfl, hw⟩
  have hw := hw.symm
  subst hw
  rw [hir]
  refine hK.out _ _ ⟨HD.out.1, HD.out.2.1⟩ (fun hHeld => ?_)
  clear hK KC
  refine ready_call 9 ⟨some 15, Op.call { callee := Callee.value (Operand.func 85), args := #[Operand.tmp 14], argTypes := #[4] }, _, _, _, none⟩ (by kernel_rfl) rfl (by kernel_rfl) (fun KC hK => ?_)
  go_wp2_with fail
  refine (must_yes _).mono ?_
  rintro r w2 ⟨rfl, hw⟩
  have hw := hw.symm
  subst hw
  refine hK.out _ _ ⟨HD.out.1, HD.out.2.1⟩ (fun hHeld => ?_)
  clear hK KC
  refine wpAnyH_done (by kernel_rfl) ?_ _
  refine NoPanic.normal ?_
  clear hHeld
  have s0 := (HD.out.1).cell 0 rfl; have s1 := (HD.out.1).cell 1 rfl; have s2 := (HD.out.1).cell 2 rfl; have sz := (HD.out.1).2
  have u0 := (HD.out.2.1).cell 0 rfl; have u1 := (HD.out.2.1).cell 1 rfl; have u2 := (HD.out.2.1).cell 2 rfl; have uz := (HD.out.2.1).2
  have i0 : (0 : Int) ≤ (i : Int) ∧ (i : Int) < (m : Int) := by omega
  have qs := ((HD.out.2.2).cell (p := ⟨q, i, none⟩) HQ.out.2).trans HQ.out.1
  go_upto_region 2 with fail
  go_region
  have j0 : (0 : Int) ≤ (j : Int) ∧ (j : Int) < (n : Int) := by omega
  obtain ⟨X, hX⟩ : ∃ x, x = W.drew := ⟨_, rfl⟩
  have HX : Hid (Bx X w.heap.size [.int .i64 k, .int .i64 i, .int .i64 j] ∧ Below w.heap.size w X) := hX ▸ ⟨HD.out.1.next (below_drew _), below_next HD.out.2.2 (below_drew _)⟩
  rw [← hX]
  clear hX
  clear s0 s1 s2 sz u0 u1 u2 uz qs
  have s0 := HX.out.1.cell 0 rfl; have s1 := HX.out.1.cell 1 rfl; have s2 := HX.out.1.cell 2 rfl; have sz := HX.out.1.2
  have g0 := ((HX.out.2).cell (p := ⟨g, j * 2, none⟩) HG.out.2.2).trans HG.out.1
  have g1 := ((HX.out.2).cell (p := ⟨g, j * 2 + 1, none⟩) HG.out.2.2).trans HG.out.2.1
  go_wp2_with (first | (go_at_call 45; refine (inRange_any _ _ _ _).mono ?_; rintro e w' ⟨rfl, hw⟩; have hw := hw.symm; subst hw; rw [hjr]) | (go_at_call 77; refine (isUp_n true h false _ rfl).mono ?_; rintro r w3 ⟨rfl, hb⟩; have HE := Hid.intro (below_next HX.out.2 hb); have t0 := hb.cell (p := ⟨w.heap.size, 0, none⟩) sz; have s0 := t0.trans s0; have t1 := hb.cell (p := ⟨w.heap.size, 1, none⟩) sz; have s1 := t1.trans s1; have t2 := hb.cell (p := ⟨w.heap.size, 2, none⟩) sz; have s2 := t2.trans s2; have sz := Nat.lt_of_lt_of_le sz hb.size; clear hb t0 t1 t2) | (go_at_call 85; first | (refine (must_yes _).mono ?_; rintro r w2 ⟨rfl, hw⟩; subst hw) | (refine (must_no _ (HF.out.next HE.out HF.out.lt)).mono ?_; rintro r w2 ⟨⟨p, rfl⟩, hw⟩; subst hw)))
  exact ⟨rfl, ⟨p, rfl⟩, HE.out⟩

set_option maxRecDepth 100000 in
set_option maxHeartbeats 2000000 in
theorem mustBeUp_y (b : Nat) (q m c n c2 i j g : Nat) (h : Int) (dr rc k : Int) (w : World) (hm : m ≤ 1000) (hn : n ≤ 1000) (hi : i < m) (hj : j < n) (hs : w.cell? ⟨q, i, none⟩ = some (.slice (some ⟨g, 0, none⟩) n c2)) (hq : q < w.heap.size) (h0 : w.cell? ⟨g, j * 2, none⟩ = some (.bool false)) (h1 : w.cell? ⟨g, j * 2 + 1, none⟩ = some (.int .i64 h)) (hg : g < w.heap.size) (hx : Bx w b [.slice (some ⟨q, 0, none⟩) m c, .int .i64 dr, .int .i64 rc]) :
    Calls Tryd.prog 90 #[.pointer (some ⟨b, 0, none⟩), .agg #[.int .i64 k, .int .i64 i, .int .i64 j]] w fun r w' => r = .returned (.pointer (some ⟨g, j * 2, none⟩)) ∧ Below w.heap.size w w' := by
  obtain ⟨w0, hw0⟩ : ∃ x, x = w.alloc (.cells #[.int .i64 k, .int .i64 i, .int .i64 j] 48) := ⟨_, rfl⟩
  have hb0 : Below w.heap.size w w0 := hw0 ▸ Go.Joins.below_alloc1 _ _
  have HB0 : Hid (Bx w0 w.heap.size [.int .i64 k, .int .i64 i, .int .i64 j] ∧ Bx w0 b [.slice (some ⟨q, 0, none⟩) m c, .int .i64 dr, .int .i64 rc] ∧ Below w.heap.size w w0) := ⟨hw0 ▸ Bx.new w [_, _, _] _, hx.next hb0, hb0⟩
  have hwn : IntKind.i64.wrap ((n : Int) - 1) = (n : Int) - 1 := w64f (by omega) (by omega)
  have hjr : inR (j : Int) 0 ((n : Int) - 1) = true := inR_iff.2 (by omega)
  have HG : Hid (w.cell? ⟨g, j * 2, none⟩ = some (.bool false) ∧ w.cell? ⟨g, j * 2 + 1, none⟩ = some (.int .i64 h) ∧ g < w.heap.size) := ⟨h0, h1, hg⟩
  clear h0 h1 hg
  have hir : inR (i : Int) 0 ((m : Int) - 1) = true := inR_iff.2 (by omega)
  have hwr : IntKind.i64.wrap ((m : Int) - 1) = (m : Int) - 1 := w64f (by omega) (by omega)
  have HQ : Hid (w.cell? ⟨q, i, none⟩ = some (.slice (some ⟨g, 0, none⟩) n c2) ∧ q < w.heap.size) := ⟨hs, hq⟩
  clear hs hq
  have HD : Hid (Bx w0.drew w.heap.size [.int .i64 k, .int .i64 i, .int .i64 j] ∧ Bx w0.drew b [.slice (some ⟨q, 0, none⟩) m c, .int .i64 dr, .int .i64 rc] ∧ Below w.heap.size w w0.drew) := ⟨HB0.out.1.next (below_drew _), HB0.out.2.1.next (below_drew _), below_next HB0.out.2.2 (below_drew _)⟩
  clear hb0 hx
  go_enter Tryd.func90, Tryd.ntmps90
  go_upto_region 1 with fail
  rw [← hw0]
  clear hw0 HB0
  refine wp_region_noPanic ?_
  refine wp_region_held_drew (S := fun W => Bx W w.heap.size [.int .i64 k, .int .i64 i, .int .i64 j] ∧ Bx W b [.slice (some ⟨q, 0, none⟩) m c, .int .i64 dr, .int .i64 rc]) (by kernel_rfl) ⟨HD.out.1, HD.out.2.1⟩ (fun hHeld => ?_)
  obtain ⟨W, hWE⟩ : ∃ x, x = w0.drew := ⟨_, rfl⟩
  rw [← hWE] at HD hHeld ⊢
  clear hWE
  refine take_v (v := ?_) 0 ⟨some 6, Op.fieldAddr 48 (Operand.tmp 3) 1, _, _, _, none⟩ rfl (fun _ _ _ h => h) ?_ hHeld ?_
  rotate_left
  · (intro W _; go_simp <;> (try with_reducible rfl))
  refine take_v (v := ?_) 1 ⟨some 7, Op.load 3 (Operand.tmp 6), _, _, _, none⟩ rfl (fun _ _ _ h => h) ?_ hHeld ?_
  rotate_left
  · (intro W hSW; (have s0 := hSW.1.cell 0 rfl; have s1 := hSW.1.cell 1 rfl; have s2 := hSW.1.cell 2 rfl; have sz := hSW.1.2; have u0 := hSW.2.cell 0 rfl; have u1 := hSW.2.cell 1 rfl; have u2 := hSW.2.cell 2 rfl; have uz := hSW.2.2); go_simp <;> (try with_reducible rfl))
  refine take_v (v := ?_) 2 ⟨some 8, Op.move (Operand.tmp 0), _, _, _, none⟩ rfl (fun _ _ _ h => h) ?_ hHeld ?_
  rotate_left
  · (intro W _; go_simp <;> (try with_reducible rfl))
  refine take_v (v := ?_) 3 ⟨some 9, Op.nilCheck (Operand.tmp 8), _, _, _, none⟩ rfl (fun _ _ _ h => h) ?_ hHeld ?_
  rotate_left
  · (intro W _; go_simp <;> (try with_reducible rfl))
  refine take_v (v := ?_) 4 ⟨some 10, Op.fieldAddr 29 (Operand.tmp 9) 0, _, _, _, none⟩ rfl (fun _ _ _ h => h) ?_ hHeld ?_
  rotate_left
  · (intro W _; go_simp <;> (try with_reducible rfl))
  refine take_v (v := ?_) 5 ⟨some 11, Op.load 27 (Operand.tmp 10), _, _, _, none⟩ rfl (fun _ _ _ h => h) ?_ hHeld ?_
  rotate_left
  · (intro W hSW; (have s0 := hSW.1.cell 0 rfl; have s1 := hSW.1.cell 1 rfl; have s2 := hSW.1.cell 2 rfl; have sz := hSW.1.2; have u0 := hSW.2.cell 0 rfl; have u1 := hSW.2.cell 1 rfl; have u2 := hSW.2.cell 2 rfl; have uz := hSW.2.2); go_simp <;> (try with_reducible rfl))
  refine take_v (v := ?_) 6 ⟨some 12, Op.call { callee := Callee.builtin Builtin.len, args := #[Operand.tmp 11], argTypes := #[27] }, _, _, _, none⟩ rfl (fun _ _ _ h => h) ?_ hHeld ?_
  rotate_left
  · (intro W _; go_simp <;> (try with_reducible rfl))
  refine take_v (v := ?_) 7 ⟨some 13, Op.binOp BinOp.sub 3 (Operand.tmp 12) (Operand.const (Value.int IntKind.i64 1)) 3, _, _, _, none⟩ rfl (fun _ _ _ h => h) ?_ hHeld ?_
  rotate_left
  · (intro W _; go_simp <;> (try with_reducible rfl))
  refine ready_call 8 ⟨some 14, Op.call { callee := Callee.value (Operand.func 45), args := #[Operand.tmp 7, Operand.const (Value.int IntKind.i64 0), Operand.tmp 13], argTypes := #[3, 3, 3] }, _, _, _, none⟩ (by kernel_rfl) rfl (by kernel_rfl) (fun KC hK => ?_)
  go_wp2_with fail
  refine (inRange_any _ _ _ _).mono ?_
  rintro e w' ⟨rfl, hw⟩
  have hw := hw.symm
  subst hw
  rw [hir]
  refine hK.out _ _ ⟨HD.out.1, HD.out.2.1⟩ (fun hHeld => ?_)
  clear hK KC
  refine ready_call 9 ⟨some 15, Op.call { callee := Callee.value (Operand.func 85), args := #[Operand.tmp 14], argTypes := #[4] }, _, _, _, none⟩ (by kernel_rfl) rfl (by kernel_rfl) (fun KC hK => ?_)
  go_wp2_with fail
  refine (must_yes _).mono ?_
  rintro r w2 ⟨rfl, hw⟩
  have hw := hw.symm
  subst hw
  refine hK.out _ _ ⟨HD.out.1, HD.out.2.1⟩ (fun hHeld => ?_)
  clear hK KC
  refine wpAnyH_done (by kernel_rfl) ?_ _
  refine NoPanic.normal ?_
  clear hHeld
  have s0 := (HD.out.1).cell 0 rfl; have s1 := (HD.out.1).cell 1 rfl; have s2 := (HD.out.1).cell 2 rfl; have sz := (HD.out.1).2
  have u0 := (HD.out.2.1).cell 0 rfl; have u1 := (HD.out.2.1).cell 1 rfl; have u2 := (HD.out.2.1).cell 2 rfl; have uz := (HD.out.2.1).2
  have i0 : (0 : Int) ≤ (i : Int) ∧ (i : Int) < (m : Int) := by omega
  have qs := ((HD.out.2.2).cell (p := ⟨q, i, none⟩) HQ.out.2).trans HQ.out.1
  go_upto_region 2 with fail
  go_region
  have j0 : (0 : Int) ≤ (j : Int) ∧ (j : Int) < (n : Int) := by omega
  obtain ⟨X, hX⟩ : ∃ x, x = W.drew := ⟨_, rfl⟩
  have HX : Hid (Bx X w.heap.size [.int .i64 k, .int .i64 i, .int .i64 j] ∧ Below w.heap.size w X) := hX ▸ ⟨HD.out.1.next (below_drew _), below_next HD.out.2.2 (below_drew _)⟩
  rw [← hX]
  clear hX
  clear s0 s1 s2 sz u0 u1 u2 uz qs
  have s0 := HX.out.1.cell 0 rfl; have s1 := HX.out.1.cell 1 rfl; have s2 := HX.out.1.cell 2 rfl; have sz := HX.out.1.2
  have g0 := ((HX.out.2).cell (p := ⟨g, j * 2, none⟩) HG.out.2.2).trans HG.out.1
  have g1 := ((HX.out.2).cell (p := ⟨g, j * 2 + 1, none⟩) HG.out.2.2).trans HG.out.2.1
  go_wp2_with (first | (go_at_call 45; refine (inRange_any _ _ _ _).mono ?_; rintro e w' ⟨rfl, hw⟩; have hw := hw.symm; subst hw; rw [hjr]) | (go_at_call 77; refine (isUp_n false h true _ rfl).mono ?_; rintro r w3 ⟨rfl, hb⟩; have HE := Hid.intro (below_next HX.out.2 hb); have t0 := hb.cell (p := ⟨w.heap.size, 0, none⟩) sz; have s0 := t0.trans s0; have t1 := hb.cell (p := ⟨w.heap.size, 1, none⟩) sz; have s1 := t1.trans s1; have t2 := hb.cell (p := ⟨w.heap.size, 2, none⟩) sz; have s2 := t2.trans s2; have sz := Nat.lt_of_lt_of_le sz hb.size; clear hb t0 t1 t2) | (go_at_call 85; refine (must_yes _).mono ?_; rintro r w2 ⟨rfl, hw⟩; subst hw))
  go_ret
  exact ⟨rfl, HE.out⟩

end Go.Proofs.YtkpobihpcnoemaaDoor
