/- Synods: spec.l10Promise. Written by tools/mkSzB.py. -/
import Derived.Test.YtmhkfangfhanlaaSzA
namespace Go.Proofs.Ytmhkfangfhanlaa
open Go.RowKit
set_option linter.unusedVariables false
set_option linter.unusedSimpArgs false

theorem pm_cell {W : World} {g n cap k : Nat} {l : List (Sh.T shPromise)} (h : Lies W (.list shPromise) [.slice (some ⟨g, 0, none⟩) n cap] l) (hk : k < l.length) : W.cell? ⟨g, k * 3, none⟩ = some (.int .i64 (pnd l[k])) := by
  have hn : n = l.length := by
    obtain ⟨_, _, e, _⟩ := h
    simp only [List.cons.injEq, Value.slice.injEq, and_true] at e
    exact e.2.1
  subst hn
  obtain ⟨g', off, hgo, hgs, ec, hel, hec, hle⟩ := Lies.elem h hk
  have hgo : g = g' ∧ 0 = off := by simpa using hgo
  obtain ⟨rfl, rfl⟩ := hgo
  obtain ⟨y, hy⟩ : ∃ y, l[k] = y := ⟨_, rfl⟩
  obtain ⟨y0, y1, y2, _⟩ := y
  rw [hy] at hle ⊢
  have hev : ec = [.int .i64 y0, .int .i64 y1, .string y2] := lies_flat (e := tyPromise) rfl hle
  subst hev
  have := hec 0 (by simp)
  have e3 : Sh.c shPromise = 3 := rfl
  rw [e3] at this
  simpa [pnd] using this
theorem ApS.up {e : Ty} {t : TypeId} {w w0 W : World} {v : Value} {l : List e.T} (h : ApS e t w0 W v l) (hb : Below w.heap.size w w0) : ApS e t w W v l := by
  have := hb.size
  exact ⟨(h.1.lower this).mono (fun k hk => by simp only [Btw] at hk ⊢; omega), below_next hb h.2⟩
theorem ApS.nil' {e : Ty} {t : TypeId} {w W : World} (h : Below w.heap.size w W) : ApS e t w W (.slice none 0 0) [] := ⟨OwnX.nil', h⟩

set_option maxRecDepth 100000 in
set_option maxHeartbeats 8000000 in
theorem l10Promise_n (v : Value) (l : List (Sh.T shPromise)) (nd b : Int) (t : ByteArray) (lo : Nat) (S : Nat → Prop) (w : World) (hn : l.length ≤ 1000) (hr : l.Pairwise (fun x y => pnd x < pnd y)) (h : OwnX w lo (.list tyPromise 96) [v] l S) :
    Calls Try.prog 85 #[v, .agg #[.int .i64 nd, .int .i64 b, .string t]] w (NewX tyPromise 96 (putP l (mkPm nd b t)) w) := by
  obtain ⟨i0, hi0, hz0, hz1, hz2⟩ := info_parts inf_Promise
  have HR : Hid (l.Pairwise (fun x y => pnd x < pnd y)) := hr
  obtain ⟨w0, hw0⟩ : ∃ x, x = w.alloc (.cells #[.int .i64 nd, .int .i64 b, .string t] 96) := ⟨_, rfl⟩
  have HX0 : Hid (Bx w0 w.heap.size [.int .i64 nd, .int .i64 b, .string t] ∧ Below w.heap.size w w0) := ⟨hw0 ▸ Bx.new w [_, _, _] _, hw0 ▸ Go.Joins.below_alloc1 _ _⟩
  rcases h.form with ⟨hl, rfl⟩ | ⟨g, cap, hv, hg⟩
  · subst hl
    have HX : Hid (Bx w0 w.heap.size [.int .i64 nd, .int .i64 b, .string t] ∧ True ∧ Below w.heap.size w w0) := ⟨HX0.out.1, trivial, HX0.out.2⟩
    clear h hn hr HR HX0
    go_enter Try.func85, Try.ntmps85
    go_wp2
    rw [← hw0]
    clear hw0
    go_loopw [5] (fun i wr => i = .int .i64 0 ∧ Below w0.heap.size w0 wr) (fun _ _ => 0)
    case atStart => exact ⟨rfl, Below.refl _ _⟩
    case round =>
      obtain ⟨rfl, hb⟩ := hrel
      have H1 : Hid (Below w0.heap.size w0 wr.drew) := hb.drew
      clear hb
      go_upto_region 2 with fail
      refine wp_region_noPanic ?_
      refine wp_region_held_drew (S := fun W => Bx W w.heap.size [.int .i64 nd, .int .i64 b, .string t]) (by kernel_rfl) (HX.out.1.next H1.out) (fun hHeld => ?_)
      refine take_v (v := ?_) 0 ⟨some 7, Op.move (Operand.tmp 5), _, _, _, none⟩ rfl (fun _ _ _ h => h) ?_ hHeld ?_
      rotate_left
      · (intro W _; go_simp <;> (try with_reducible rfl))
      refine take_v (v := ?_) 1 ⟨some 8, Op.move (Operand.tmp 0), _, _, _, none⟩ rfl (fun _ _ _ h => h) ?_ hHeld ?_
      rotate_left
      · (intro W _; go_simp <;> (try with_reducible rfl))
      refine take_v (v := ?_) 2 ⟨some 9, Op.call { callee := Callee.builtin Builtin.len, args := #[Operand.tmp 8], argTypes := #[40] }, _, _, _, none⟩ rfl (fun _ _ _ h => h) ?_ hHeld ?_
      rotate_left
      · (intro W _; go_simp <;> (try with_reducible rfl))
      refine take_v (v := ?_) 3 ⟨some 10, Op.binOp BinOp.lss 3 (Operand.tmp 7) (Operand.tmp 9) 3, _, _, _, none⟩ rfl (fun _ _ _ h => h) ?_ hHeld ?_
      rotate_left
      · (intro W _; go_simp <;> (try with_reducible rfl))
      refine take_v (v := ?_) 4 ⟨some 11, Op.move (Operand.tmp 10), _, _, _, none⟩ rfl (fun _ _ _ h => h) ?_ hHeld ?_
      rotate_left
      · (intro W _; go_simp <;> (try with_reducible rfl))
      refine take_n 5 ⟨some 12, Op.move (Operand.tmp 0), _, _, _, some (4, true)⟩ rfl (fun _ _ _ h => h) hHeld ?_
      refine take_n 6 ⟨some 13, Op.move (Operand.tmp 5), _, _, _, some (4, true)⟩ rfl (fun _ _ _ h => h) hHeld ?_
      refine take_n 7 ⟨some 14, Op.indexAddr 40 (Operand.tmp 12) (Operand.tmp 13), _, _, _, some (4, true)⟩ rfl (fun _ _ _ h => h) hHeld ?_
      refine take_n 8 ⟨some 15, Op.fieldAddr 96 (Operand.tmp 14) 0, _, _, _, some (4, true)⟩ rfl (fun _ _ _ h => h) hHeld ?_
      refine take_n 9 ⟨some 16, Op.load 3 (Operand.tmp 15), _, _, _, some (4, true)⟩ rfl (fun _ _ _ h => h) hHeld ?_
      refine take_n 10 ⟨some 17, Op.fieldAddr 96 (Operand.tmp 3) 0, _, _, _, some (4, true)⟩ rfl (fun _ _ _ h => h) hHeld ?_
      refine take_n 11 ⟨some 18, Op.load 3 (Operand.tmp 17), _, _, _, some (4, true)⟩ rfl (fun _ _ _ h => h) hHeld ?_
      refine take_n 12 ⟨some 19, Op.binOp BinOp.lss 3 (Operand.tmp 16) (Operand.tmp 18) 3, _, _, _, some (4, true)⟩ rfl (fun _ _ _ h => h) hHeld ?_
      refine take_v (v := ?_) 13 ⟨some 20, Op.pick (Operand.tmp 11) (Operand.tmp 19) (Operand.const (Value.bool false)), _, _, _, none⟩ rfl (fun _ _ _ h => h) ?_ hHeld ?_
      rotate_left
      · (intro W _; go_simp <;> (try with_reducible rfl))
      refine wpAnyH_done (by kernel_rfl) ?_ _
      refine NoPanic.normal ?_
      clear hHeld
      obtain ⟨wd, hwd⟩ : ∃ y, y = wr.drew := ⟨_, rfl⟩
      rw [← hwd] at H1 ⊢
      clear hwd
      have HT : Hid (Lies wd (.list shPromise) [.slice none 0 0] []) := ⟨none, 0, rfl, by simp, by simp, Or.inl rfl⟩
      have HD : Hid (Lies w0 (.list shPromise) [.slice none 0 0] []) := ⟨none, 0, rfl, by simp, by simp, Or.inl rfl⟩
      have HF : Hid ([] ++ [] ++ [(mkPm nd b t)] ++ [] = putP [] (mkPm nd b t)) := Hid.intro (by unfold putP; rw [show hsP [] (pnd (mkPm nd b t)) = false from tf_no (by simp)]; simp)
      have hb1 : 0 + ([] : List (Sh.T shPromise)).length ≤ maxLen := by simp only [List.length_append, List.length_cons, List.length_nil, List.nil_append]; unfold maxLen; omega
      have hc1 : (0 + ([] : List (Sh.T shPromise)).length) * 32 ≤ 140737488355328 := by simp only [List.length_append, List.length_cons, List.length_nil, List.nil_append]; omega
      have hb2 : (([] : List (Sh.T shPromise)) ++ []).length + 1 ≤ maxLen := by simp only [List.length_append, List.length_cons, List.length_nil, List.nil_append]; unfold maxLen; omega
      have hc2 : ((([] : List (Sh.T shPromise)) ++ []).length + 1) * 32 ≤ 140737488355328 := by simp only [List.length_append, List.length_cons, List.length_nil, List.nil_append]; omega
      have hb3 : (([] : List (Sh.T shPromise)) ++ [] ++ [(mkPm nd b t)]).length + ([] : List (Sh.T shPromise)).length ≤ maxLen := by simp only [List.length_append, List.length_cons, List.length_nil, List.nil_append]; unfold maxLen; omega
      have hc3 : ((([] : List (Sh.T shPromise)) ++ [] ++ [(mkPm nd b t)]).length + ([] : List (Sh.T shPromise)).length) * 32 ≤ 140737488355328 := by simp only [List.length_append, List.length_cons, List.length_nil, List.nil_append]; omega
      go_upto_region 7 with (first
        | (at_builtin; refine wpList_appx rfl (.tmp 23) (.tmp 26) 40 96 rfl i0 (.agg #[.int .i64 0, .int .i64 0, .string ⟨#[]⟩]) 32 w0.heap.size tyPromise rfl Try.underlying40 hi0 hz0 hz1 hz2 rfl (by decide) (.slice none 0 0) [] ([] : List (Sh.T shPromise)) (fun _ => False) rfl OwnX.nil' none 0 rfl HT.out hb1 hc1 H1.out.size ?_; intro v1 w1 hO1 hg1 hwh1; have HA1 := Hid.intro (ApS.app (e := tyPromise) (l2 := ([] : List (Sh.T shPromise))) rfl (ApS.nil' H1.out) hO1 hg1); have HA1a := Hid.intro (HA1.out.next rfl (Go.Joins.below_alloc1 w1 (.cells #[.int .i64 nd, .int .i64 b, .string t] 96))); have HA1b := Hid.intro (lies_one (w := w1) (e := shPromise) (cs := [.int .i64 nd, .int .i64 b, .string t]) (x := (mkPm nd b t)) 96 rfl mk_Promise); have G1 := HX.out.1.next HA1.out.2; have y0 := G1.cell 0 rfl; have y1 := G1.cell 1 rfl; have y2 := G1.cell 2 rfl; have yz := G1.2; clear hO1 hg1 hwh1 G1)
        | (at_builtin; refine wpList_appx rfl (.tmp 28) (.tmp 30) 40 96 rfl i0 (.agg #[.int .i64 0, .int .i64 0, .string ⟨#[]⟩]) 32 w0.heap.size tyPromise rfl Try.underlying40 hi0 hz0 hz1 hz2 rfl (by decide) v1 (([] : List (Sh.T shPromise)) ++ ([] : List (Sh.T shPromise)) : List (Sh.T shPromise)) [(mkPm nd b t)] _ rfl HA1a.out.1 (some ⟨w1.heap.size, 0, none⟩) 1 rfl HA1b.out hb2 hc2 HA1a.out.2.size ?_; intro v2 w2 hO2 hg2 hwh2; have HA2 := Hid.intro (ApS.app (e := tyPromise) (l2 := [(mkPm nd b t)]) rfl HA1a.out hO2 hg2); clear hO2 hg2 hwh2 y0 y1 y2 yz HA1a HA1b HA1)
        | go_in)
      refine wp_region_noPanic ?_
      refine wp_region_held_drew (S := fun W => Bx W w.heap.size [.int .i64 nd, .int .i64 b, .string t]) (by kernel_rfl) (HX.out.1.next HA2.out.2.drew) (fun hHeld => ?_)
      refine take_v (v := ?_) 0 ⟨some 32, Op.move (Operand.tmp 5), _, _, _, none⟩ rfl (fun _ _ _ h => h) ?_ hHeld ?_
      rotate_left
      · (intro W _; go_simp <;> (try with_reducible rfl))
      refine take_v (v := ?_) 1 ⟨some 33, Op.move (Operand.tmp 0), _, _, _, none⟩ rfl (fun _ _ _ h => h) ?_ hHeld ?_
      rotate_left
      · (intro W _; go_simp <;> (try with_reducible rfl))
      refine take_v (v := ?_) 2 ⟨some 34, Op.call { callee := Callee.builtin Builtin.len, args := #[Operand.tmp 33], argTypes := #[40] }, _, _, _, none⟩ rfl (fun _ _ _ h => h) ?_ hHeld ?_
      rotate_left
      · (intro W _; go_simp <;> (try with_reducible rfl))
      refine take_v (v := ?_) 3 ⟨some 35, Op.binOp BinOp.lss 3 (Operand.tmp 32) (Operand.tmp 34) 3, _, _, _, none⟩ rfl (fun _ _ _ h => h) ?_ hHeld ?_
      rotate_left
      · (intro W _; go_simp <;> (try with_reducible rfl))
      refine take_v (v := ?_) 4 ⟨some 36, Op.move (Operand.tmp 35), _, _, _, none⟩ rfl (fun _ _ _ h => h) ?_ hHeld ?_
      rotate_left
      · (intro W _; go_simp <;> (try with_reducible rfl))
      refine take_n 5 ⟨some 37, Op.move (Operand.tmp 0), _, _, _, some (4, true)⟩ rfl (fun _ _ _ h => h) hHeld ?_
      refine take_n 6 ⟨some 38, Op.move (Operand.tmp 5), _, _, _, some (4, true)⟩ rfl (fun _ _ _ h => h) hHeld ?_
      refine take_n 7 ⟨some 39, Op.indexAddr 40 (Operand.tmp 37) (Operand.tmp 38), _, _, _, some (4, true)⟩ rfl (fun _ _ _ h => h) hHeld ?_
      refine take_n 8 ⟨some 40, Op.fieldAddr 96 (Operand.tmp 39) 0, _, _, _, some (4, true)⟩ rfl (fun _ _ _ h => h) hHeld ?_
      refine take_n 9 ⟨some 41, Op.load 3 (Operand.tmp 40), _, _, _, some (4, true)⟩ rfl (fun _ _ _ h => h) hHeld ?_
      refine take_n 10 ⟨some 42, Op.fieldAddr 96 (Operand.tmp 3) 0, _, _, _, some (4, true)⟩ rfl (fun _ _ _ h => h) hHeld ?_
      refine take_n 11 ⟨some 43, Op.load 3 (Operand.tmp 42), _, _, _, some (4, true)⟩ rfl (fun _ _ _ h => h) hHeld ?_
      refine take_n 12 ⟨some 44, Op.binOp BinOp.eql 3 (Operand.tmp 41) (Operand.tmp 43) 3, _, _, _, some (4, true)⟩ rfl (fun _ _ _ h => h) hHeld ?_
      refine take_v (v := ?_) 13 ⟨some 45, Op.pick (Operand.tmp 36) (Operand.tmp 44) (Operand.const (Value.bool false)), _, _, _, none⟩ rfl (fun _ _ _ h => h) ?_ hHeld ?_
      rotate_left
      · (intro W _; go_simp <;> (try with_reducible rfl))
      refine wpAnyH_done (by kernel_rfl) ?_ _
      refine NoPanic.normal ?_
      clear hHeld
      obtain ⟨wz, hwz⟩ : ∃ y, y = w2.drew := ⟨_, rfl⟩
      have HA3 : Hid (ApS tyPromise 96 w0 wz v2 (([] : List (Sh.T shPromise)) ++ [] ++ [(mkPm nd b t)] : List (Sh.T shPromise))) := Hid.intro (hwz ▸ HA2.out.next rfl (below_drew _))
      rw [← hwz]
      clear hwz HA2
      go_wp2_with (first
        | (at_builtin; refine wpList_appx rfl (.tmp 48) (.tmp 51) 40 96 rfl i0 (.agg #[.int .i64 0, .int .i64 0, .string ⟨#[]⟩]) 32 w0.heap.size tyPromise rfl Try.underlying40 hi0 hz0 hz1 hz2 rfl (by decide) v2 (([] : List (Sh.T shPromise)) ++ ([] : List (Sh.T shPromise)) ++ [(mkPm nd b t)] : List (Sh.T shPromise)) [] _ rfl HA3.out.1 none 0 rfl (HD.out.next HA3.out.2) hb3 hc3 HA3.out.2.size ?_; intro v3 w3 hO3 hg3 hwh3; have HA4 := Hid.intro (ApS.app (e := tyPromise) (l2 := []) rfl HA3.out hO3 hg3); clear hO3 hg3 hwh3)
        | go_in)
      all_goals go_ret
      all_goals exact ⟨_, rfl, (HF.out ▸ HA4.out.up HX.out.2.2)⟩
  · have hv : v = .slice (some ⟨g, 0, none⟩) (List.length (α := Sh.T shPromise) l) cap := hv
    subst hv
    have hcap : l.length ≤ cap := h.cap rfl
    have HX : Hid (Bx w0 w.heap.size [.int .i64 nd, .int .i64 b, .string t] ∧ Lies w0 (.list shPromise) [.slice (some ⟨g, 0, none⟩) l.length cap] l ∧ Below w.heap.size w w0) := ⟨HX0.out.1, h.lies.next HX0.out.2, HX0.out.2⟩
    obtain ⟨n, hnn⟩ : ∃ n, n = l.length := ⟨_, rfl⟩
    have HN : Hid (n = l.length) := hnn
    rw [← hnn] at hcap hn HX ⊢
    clear h hnn hr HX0 hg
    go_enter Try.func85, Try.ntmps85
    go_wp2
    rw [← hw0]
    clear hw0
    go_loopw [5] (fun i wr => ∃ k : Nat, k ≤ n ∧ i = .int .i64 k ∧ (∀ i (h : i < l.length), i < k → pnd l[i] < nd) ∧ Below w0.heap.size w0 wr) (fun i _ => n - (intOf i).toNat)
    case atStart => exact ⟨0, Nat.zero_le _, rfl, fun i _ q => absurd q (by omega), Below.refl _ _⟩
    case round =>
      obtain ⟨k, hk, rfl, hno, hb⟩ := hrel
      have HO : Hid (∀ i (h : i < l.length), i < k → pnd l[i] < nd) := hno
      have H1 : Hid (Below w0.heap.size w0 wr.drew) := hb.drew
      clear hno hb
      by_cases hlt : k < n
      · have hlx : k < l.length := by have := HN.out; omega
        have hlt' : (k : Int) < (n : Int) := by omega
        have hpd : decide (k < n) = true := by simp; omega
        obtain ⟨y, hy⟩ : ∃ y : Int, y = pnd l[k] := ⟨_, rfl⟩
        have HY : Hid (y = pnd l[k]) := hy
        have HCk : Hid (wr.drew.cell? ⟨g, k * 3, none⟩ = some (.int .i64 y)) := Hid.intro (by rw [hy]; exact pm_cell (HX.out.2.1.next H1.out) hlx)
        clear hy
        by_cases e : y < nd
        · have HS : Hid (∀ i (h : i < l.length), i < k + 1 → pnd l[i] < nd) := Hid.intro (fun i hi q => by
            by_cases q2 : i = k
            · subst q2; rw [← HY.out]; exact e
            · exact HO.out i hi (by omega))
          go_upto_region 2 with fail
          refine wp_region_noPanic ?_
          refine wp_region_held_drew (S := fun W => Bx W w.heap.size [.int .i64 nd, .int .i64 b, .string t] ∧ W.cell? ⟨g, k * 3, none⟩ = some (.int .i64 y)) (by kernel_rfl) ⟨HX.out.1.next H1.out, HCk.out⟩ (fun hHeld => ?_)
          refine take_v (v := ?_) 0 ⟨some 7, Op.move (Operand.tmp 5), _, _, _, none⟩ rfl (fun _ _ _ h => h) ?_ hHeld ?_
          rotate_left
          · (intro W _; go_simp <;> (try with_reducible rfl))
          refine take_v (v := ?_) 1 ⟨some 8, Op.move (Operand.tmp 0), _, _, _, none⟩ rfl (fun _ _ _ h => h) ?_ hHeld ?_
          rotate_left
          · (intro W _; go_simp <;> (try with_reducible rfl))
          refine take_v (v := ?_) 2 ⟨some 9, Op.call { callee := Callee.builtin Builtin.len, args := #[Operand.tmp 8], argTypes := #[40] }, _, _, _, none⟩ rfl (fun _ _ _ h => h) ?_ hHeld ?_
          rotate_left
          · (intro W _; go_simp <;> (try with_reducible rfl))
          refine take_v (v := ?_) 3 ⟨some 10, Op.binOp BinOp.lss 3 (Operand.tmp 7) (Operand.tmp 9) 3, _, _, _, none⟩ rfl (fun _ _ _ h => h) ?_ hHeld ?_
          rotate_left
          · (intro W _; go_simp <;> (try with_reducible rfl))
          refine take_v (v := ?_) 4 ⟨some 11, Op.move (Operand.tmp 10), _, _, _, none⟩ rfl (fun _ _ _ h => h) ?_ hHeld ?_
          rotate_left
          · (intro W _; go_simp <;> (try with_reducible rfl))
          refine take_v (v := ?_) 5 ⟨some 12, Op.move (Operand.tmp 0), _, _, _, some (4, true)⟩ rfl (fun _ _ _ h => h) ?_ hHeld ?_
          rotate_left
          · (intro W _; go_simp <;> (try with_reducible rfl))
          refine take_v (v := ?_) 6 ⟨some 13, Op.move (Operand.tmp 5), _, _, _, some (4, true)⟩ rfl (fun _ _ _ h => h) ?_ hHeld ?_
          rotate_left
          · (intro W _; go_simp <;> (try with_reducible rfl))
          refine take_v (v := ?_) 7 ⟨some 14, Op.indexAddr 40 (Operand.tmp 12) (Operand.tmp 13), _, _, _, some (4, true)⟩ rfl (fun _ _ _ h => h) ?_ hHeld ?_
          rotate_left
          · (intro W _; go_simp <;> (try with_reducible rfl))
          refine take_v (v := ?_) 8 ⟨some 15, Op.fieldAddr 96 (Operand.tmp 14) 0, _, _, _, some (4, true)⟩ rfl (fun _ _ _ h => h) ?_ hHeld ?_
          rotate_left
          · (intro W _; go_simp <;> (try with_reducible rfl))
          refine take_v (v := ?_) 9 ⟨some 16, Op.load 3 (Operand.tmp 15), _, _, _, some (4, true)⟩ rfl (fun _ _ _ h => h) ?_ hHeld ?_
          rotate_left
          · (intro W hSW; (have s0 := hSW.1.cell 0 rfl; have s1 := hSW.1.2; have s2 := hSW.2); go_simp <;> (try with_reducible rfl))
          refine take_v (v := ?_) 10 ⟨some 17, Op.fieldAddr 96 (Operand.tmp 3) 0, _, _, _, some (4, true)⟩ rfl (fun _ _ _ h => h) ?_ hHeld ?_
          rotate_left
          · (intro W _; go_simp <;> (try with_reducible rfl))
          refine take_v (v := ?_) 11 ⟨some 18, Op.load 3 (Operand.tmp 17), _, _, _, some (4, true)⟩ rfl (fun _ _ _ h => h) ?_ hHeld ?_
          rotate_left
          · (intro W hSW; (have s0 := hSW.1.cell 0 rfl; have s1 := hSW.1.2; have s2 := hSW.2); go_simp <;> (try with_reducible rfl))
          refine take_v (v := ?_) 12 ⟨some 19, Op.binOp BinOp.lss 3 (Operand.tmp 16) (Operand.tmp 18) 3, _, _, _, some (4, true)⟩ rfl (fun _ _ _ h => h) ?_ hHeld ?_
          rotate_left
          · (intro W _; go_simp <;> (try with_reducible rfl))
          refine take_v (v := ?_) 13 ⟨some 20, Op.pick (Operand.tmp 11) (Operand.tmp 19) (Operand.const (Value.bool false)), _, _, _, none⟩ rfl (fun _ _ _ h => h) ?_ hHeld ?_
          rotate_left
          · (intro W _; go_simp <;> (try with_reducible rfl))
          refine wpAnyH_done (by kernel_rfl) ?_ _
          refine NoPanic.normal ?_
          clear hHeld
          go_wp2
          go_roundw
          case rel => exact ⟨k + 1, by omega, by go_num, HS.out, H1.out⟩
          case measure => simp [intOf]; omega
        · have hxy : nd ≤ y := by omega
          have HLS : Hid (lsP l nd = k) := Hid.intro (lsP_at HR.out (by omega) HO.out (fun i hi q => by
            rcases Nat.lt_or_ge k i with q2 | q2
            · have := pw_at HR.out q2 hi; rw [← HY.out] at this; omega
            · have : i = k := by omega
              subst this; rw [← HY.out]; exact hxy))
          clear e
          go_upto_region 2 with fail
          refine wp_region_noPanic ?_
          refine wp_region_held_drew (S := fun W => Bx W w.heap.size [.int .i64 nd, .int .i64 b, .string t] ∧ W.cell? ⟨g, k * 3, none⟩ = some (.int .i64 y)) (by kernel_rfl) ⟨HX.out.1.next H1.out, HCk.out⟩ (fun hHeld => ?_)
          refine take_v (v := ?_) 0 ⟨some 7, Op.move (Operand.tmp 5), _, _, _, none⟩ rfl (fun _ _ _ h => h) ?_ hHeld ?_
          rotate_left
          · (intro W _; go_simp <;> (try with_reducible rfl))
          refine take_v (v := ?_) 1 ⟨some 8, Op.move (Operand.tmp 0), _, _, _, none⟩ rfl (fun _ _ _ h => h) ?_ hHeld ?_
          rotate_left
          · (intro W _; go_simp <;> (try with_reducible rfl))
          refine take_v (v := ?_) 2 ⟨some 9, Op.call { callee := Callee.builtin Builtin.len, args := #[Operand.tmp 8], argTypes := #[40] }, _, _, _, none⟩ rfl (fun _ _ _ h => h) ?_ hHeld ?_
          rotate_left
          · (intro W _; go_simp <;> (try with_reducible rfl))
          refine take_v (v := ?_) 3 ⟨some 10, Op.binOp BinOp.lss 3 (Operand.tmp 7) (Operand.tmp 9) 3, _, _, _, none⟩ rfl (fun _ _ _ h => h) ?_ hHeld ?_
          rotate_left
          · (intro W _; go_simp <;> (try with_reducible rfl))
          refine take_v (v := ?_) 4 ⟨some 11, Op.move (Operand.tmp 10), _, _, _, none⟩ rfl (fun _ _ _ h => h) ?_ hHeld ?_
          rotate_left
          · (intro W _; go_simp <;> (try with_reducible rfl))
          refine take_v (v := ?_) 5 ⟨some 12, Op.move (Operand.tmp 0), _, _, _, some (4, true)⟩ rfl (fun _ _ _ h => h) ?_ hHeld ?_
          rotate_left
          · (intro W _; go_simp <;> (try with_reducible rfl))
          refine take_v (v := ?_) 6 ⟨some 13, Op.move (Operand.tmp 5), _, _, _, some (4, true)⟩ rfl (fun _ _ _ h => h) ?_ hHeld ?_
          rotate_left
          · (intro W _; go_simp <;> (try with_reducible rfl))
          refine take_v (v := ?_) 7 ⟨some 14, Op.indexAddr 40 (Operand.tmp 12) (Operand.tmp 13), _, _, _, some (4, true)⟩ rfl (fun _ _ _ h => h) ?_ hHeld ?_
          rotate_left
          · (intro W _; go_simp <;> (try with_reducible rfl))
          refine take_v (v := ?_) 8 ⟨some 15, Op.fieldAddr 96 (Operand.tmp 14) 0, _, _, _, some (4, true)⟩ rfl (fun _ _ _ h => h) ?_ hHeld ?_
          rotate_left
          · (intro W _; go_simp <;> (try with_reducible rfl))
          refine take_v (v := ?_) 9 ⟨some 16, Op.load 3 (Operand.tmp 15), _, _, _, some (4, true)⟩ rfl (fun _ _ _ h => h) ?_ hHeld ?_
          rotate_left
          · (intro W hSW; (have s0 := hSW.1.cell 0 rfl; have s1 := hSW.1.2; have s2 := hSW.2); go_simp <;> (try with_reducible rfl))
          refine take_v (v := ?_) 10 ⟨some 17, Op.fieldAddr 96 (Operand.tmp 3) 0, _, _, _, some (4, true)⟩ rfl (fun _ _ _ h => h) ?_ hHeld ?_
          rotate_left
          · (intro W _; go_simp <;> (try with_reducible rfl))
          refine take_v (v := ?_) 11 ⟨some 18, Op.load 3 (Operand.tmp 17), _, _, _, some (4, true)⟩ rfl (fun _ _ _ h => h) ?_ hHeld ?_
          rotate_left
          · (intro W hSW; (have s0 := hSW.1.cell 0 rfl; have s1 := hSW.1.2; have s2 := hSW.2); go_simp <;> (try with_reducible rfl))
          refine take_v (v := ?_) 12 ⟨some 19, Op.binOp BinOp.lss 3 (Operand.tmp 16) (Operand.tmp 18) 3, _, _, _, some (4, true)⟩ rfl (fun _ _ _ h => h) ?_ hHeld ?_
          rotate_left
          · (intro W _; go_simp <;> (try with_reducible rfl))
          refine take_v (v := ?_) 13 ⟨some 20, Op.pick (Operand.tmp 11) (Operand.tmp 19) (Operand.const (Value.bool false)), _, _, _, none⟩ rfl (fun _ _ _ h => h) ?_ hHeld ?_
          rotate_left
          · (intro W _; go_simp <;> (try with_reducible rfl))
          refine wpAnyH_done (by kernel_rfl) ?_ _
          refine NoPanic.normal ?_
          clear hHeld
          obtain ⟨wd, hwd⟩ : ∃ y, y = wr.drew := ⟨_, rfl⟩
          rw [← hwd] at H1 ⊢
          clear hwd
          clear HCk
          have hlk : (l.take k).length = k := by rw [List.length_take]; have := HN.out; omega
          have hk : k ≤ l.length := by have := HN.out; omega
          have HT : Hid (Lies wd (.list shPromise) [.slice (some ⟨g, 0, none⟩) (l.take k).length cap] (l.take k)) := Hid.intro (by rw [hlk]; exact (HX.out.2.1.next H1.out).take k hk)
          have hkc : (k : Int) ≤ (cap : Int) := by omega
          by_cases hyn : y = nd
          · have hyn' : (y == nd) = true := by simpa using hyn
            have hld : (l.drop (k + 1)).length = n - (k + 1) := by rw [List.length_drop]; have := HN.out; omega
            have HD : Hid (Lies w0 (.list shPromise) [.slice (if cap = k + 1 then some ⟨g, 0, none⟩ else some ⟨g, (k + 1) * 3, none⟩) (l.drop (k + 1)).length (cap - (k + 1))] (l.drop (k + 1))) := Hid.intro (by
              by_cases q : cap = k + 1
              · have e : l.drop (k + 1) = [] := List.drop_eq_nil_of_le (by have := HN.out; omega)
                rw [e]
                exact ⟨_, _, rfl, by simp, by unfold maxLen; omega, Or.inl rfl⟩
              · rw [hld, if_neg q]
                have := lies_drop HX.out.2.1 (k + 1) (by omega)
                rw [show (0 + (k + 1) * Sh.c shPromise : Nat) = (k + 1) * 3 from Nat.zero_add _] at this
                exact this)
            have HF : Hid ([] ++ l.take k ++ [(mkPm nd b t)] ++ l.drop (k + 1) = putP l (mkPm nd b t)) := Hid.intro (by
              have h1 : lsP l nd = k := HLS.out
              have h2 : hsP l nd = true := tf_yes ⟨l[k], List.getElem_mem hlx, HY.out.symm.trans hyn⟩
              unfold putP
              rw [show pnd (mkPm nd b t) = nd from rfl, h2, h1, if_pos rfl, List.set_eq_take_append_cons_drop, if_pos hlx]; simp)
            have hkc1 : (k : Int) + 1 ≤ (cap : Int) := by omega
            have hb1 : 0 + ((l.take k) : List (Sh.T shPromise)).length ≤ maxLen := by simp only [List.length_append, List.length_cons, List.length_nil, List.nil_append, hlk, hld]; unfold maxLen; omega
            have hc1 : (0 + ((l.take k) : List (Sh.T shPromise)).length) * 32 ≤ 140737488355328 := by simp only [List.length_append, List.length_cons, List.length_nil, List.nil_append, hlk, hld]; omega
            have hb2 : (([] : List (Sh.T shPromise)) ++ (l.take k)).length + 1 ≤ maxLen := by simp only [List.length_append, List.length_cons, List.length_nil, List.nil_append, hlk, hld]; unfold maxLen; omega
            have hc2 : ((([] : List (Sh.T shPromise)) ++ (l.take k)).length + 1) * 32 ≤ 140737488355328 := by simp only [List.length_append, List.length_cons, List.length_nil, List.nil_append, hlk, hld]; omega
            have hb3 : (([] : List (Sh.T shPromise)) ++ (l.take k) ++ [(mkPm nd b t)]).length + ((l.drop (k + 1)) : List (Sh.T shPromise)).length ≤ maxLen := by simp only [List.length_append, List.length_cons, List.length_nil, List.nil_append, hlk, hld]; unfold maxLen; omega
            have hc3 : ((([] : List (Sh.T shPromise)) ++ (l.take k) ++ [(mkPm nd b t)]).length + ((l.drop (k + 1)) : List (Sh.T shPromise)).length) * 32 ≤ 140737488355328 := by simp only [List.length_append, List.length_cons, List.length_nil, List.nil_append, hlk, hld]; omega
            go_upto_region 7 with (first
              | (at_builtin; refine wpList_appx rfl (.tmp 23) (.tmp 26) 40 96 rfl i0 (.agg #[.int .i64 0, .int .i64 0, .string ⟨#[]⟩]) 32 w0.heap.size tyPromise rfl Try.underlying40 hi0 hz0 hz1 hz2 rfl (by decide) (.slice none 0 0) [] (l.take k) (fun _ => False) rfl OwnX.nil' (some ⟨g, 0, none⟩) cap (congrArg (fun z => Value.slice (some ⟨g, 0, none⟩) z cap) hlk.symm) HT.out hb1 hc1 H1.out.size ?_; intro v1 w1 hO1 hg1 hwh1; have HA1 := Hid.intro (ApS.app (e := tyPromise) (l2 := (l.take k)) rfl (ApS.nil' H1.out) hO1 hg1); have HA1a := Hid.intro (HA1.out.next rfl (Go.Joins.below_alloc1 w1 (.cells #[.int .i64 nd, .int .i64 b, .string t] 96))); have HA1b := Hid.intro (lies_one (w := w1) (e := shPromise) (cs := [.int .i64 nd, .int .i64 b, .string t]) (x := (mkPm nd b t)) 96 rfl mk_Promise); have G1 := HX.out.1.next HA1.out.2; have y0 := G1.cell 0 rfl; have y1 := G1.cell 1 rfl; have y2 := G1.cell 2 rfl; have yz := G1.2; clear hO1 hg1 hwh1 G1)
              | (at_builtin; refine wpList_appx rfl (.tmp 28) (.tmp 30) 40 96 rfl i0 (.agg #[.int .i64 0, .int .i64 0, .string ⟨#[]⟩]) 32 w0.heap.size tyPromise rfl Try.underlying40 hi0 hz0 hz1 hz2 rfl (by decide) v1 (([] : List (Sh.T shPromise)) ++ (l.take k) : List (Sh.T shPromise)) [(mkPm nd b t)] _ rfl HA1a.out.1 (some ⟨w1.heap.size, 0, none⟩) 1 rfl HA1b.out hb2 hc2 HA1a.out.2.size ?_; intro v2 w2 hO2 hg2 hwh2; have HA2 := Hid.intro (ApS.app (e := tyPromise) (l2 := [(mkPm nd b t)]) rfl HA1a.out hO2 hg2); clear hO2 hg2 hwh2 y0 y1 y2 yz HA1a HA1b HA1)
              | go_in)
            refine wp_region_noPanic ?_
            refine wp_region_held_drew (S := fun W => Bx W w.heap.size [.int .i64 nd, .int .i64 b, .string t] ∧ W.cell? ⟨g, k * 3, none⟩ = some (.int .i64 y)) (by kernel_rfl) ⟨HX.out.1.next HA2.out.2.drew, by rw [HY.out]; exact pm_cell (HX.out.2.1.next HA2.out.2.drew) hlx⟩ (fun hHeld => ?_)
            refine take_v (v := ?_) 0 ⟨some 32, Op.move (Operand.tmp 5), _, _, _, none⟩ rfl (fun _ _ _ h => h) ?_ hHeld ?_
            rotate_left
            · (intro W _; go_simp <;> (try with_reducible rfl))
            refine take_v (v := ?_) 1 ⟨some 33, Op.move (Operand.tmp 0), _, _, _, none⟩ rfl (fun _ _ _ h => h) ?_ hHeld ?_
            rotate_left
            · (intro W _; go_simp <;> (try with_reducible rfl))
            refine take_v (v := ?_) 2 ⟨some 34, Op.call { callee := Callee.builtin Builtin.len, args := #[Operand.tmp 33], argTypes := #[40] }, _, _, _, none⟩ rfl (fun _ _ _ h => h) ?_ hHeld ?_
            rotate_left
            · (intro W _; go_simp <;> (try with_reducible rfl))
            refine take_v (v := ?_) 3 ⟨some 35, Op.binOp BinOp.lss 3 (Operand.tmp 32) (Operand.tmp 34) 3, _, _, _, none⟩ rfl (fun _ _ _ h => h) ?_ hHeld ?_
            rotate_left
            · (intro W _; go_simp <;> (try with_reducible rfl))
            refine take_v (v := ?_) 4 ⟨some 36, Op.move (Operand.tmp 35), _, _, _, none⟩ rfl (fun _ _ _ h => h) ?_ hHeld ?_
            rotate_left
            · (intro W _; go_simp <;> (try with_reducible rfl))
            refine take_v (v := ?_) 5 ⟨some 37, Op.move (Operand.tmp 0), _, _, _, some (4, true)⟩ rfl (fun _ _ _ h => h) ?_ hHeld ?_
            rotate_left
            · (intro W _; go_simp <;> (try with_reducible rfl))
            refine take_v (v := ?_) 6 ⟨some 38, Op.move (Operand.tmp 5), _, _, _, some (4, true)⟩ rfl (fun _ _ _ h => h) ?_ hHeld ?_
            rotate_left
            · (intro W _; go_simp <;> (try with_reducible rfl))
            refine take_v (v := ?_) 7 ⟨some 39, Op.indexAddr 40 (Operand.tmp 37) (Operand.tmp 38), _, _, _, some (4, true)⟩ rfl (fun _ _ _ h => h) ?_ hHeld ?_
            rotate_left
            · (intro W _; go_simp <;> (try with_reducible rfl))
            refine take_v (v := ?_) 8 ⟨some 40, Op.fieldAddr 96 (Operand.tmp 39) 0, _, _, _, some (4, true)⟩ rfl (fun _ _ _ h => h) ?_ hHeld ?_
            rotate_left
            · (intro W _; go_simp <;> (try with_reducible rfl))
            refine take_v (v := ?_) 9 ⟨some 41, Op.load 3 (Operand.tmp 40), _, _, _, some (4, true)⟩ rfl (fun _ _ _ h => h) ?_ hHeld ?_
            rotate_left
            · (intro W hSW; (have s0 := hSW.1.cell 0 rfl; have s1 := hSW.1.2; have s2 := hSW.2); go_simp <;> (try with_reducible rfl))
            refine take_v (v := ?_) 10 ⟨some 42, Op.fieldAddr 96 (Operand.tmp 3) 0, _, _, _, some (4, true)⟩ rfl (fun _ _ _ h => h) ?_ hHeld ?_
            rotate_left
            · (intro W _; go_simp <;> (try with_reducible rfl))
            refine take_v (v := ?_) 11 ⟨some 43, Op.load 3 (Operand.tmp 42), _, _, _, some (4, true)⟩ rfl (fun _ _ _ h => h) ?_ hHeld ?_
            rotate_left
            · (intro W hSW; (have s0 := hSW.1.cell 0 rfl; have s1 := hSW.1.2; have s2 := hSW.2); go_simp <;> (try with_reducible rfl))
            refine take_v (v := ?_) 12 ⟨some 44, Op.binOp BinOp.eql 3 (Operand.tmp 41) (Operand.tmp 43) 3, _, _, _, some (4, true)⟩ rfl (fun _ _ _ h => h) ?_ hHeld ?_
            rotate_left
            · (intro W _; go_simp <;> (try with_reducible rfl))
            refine take_v (v := ?_) 13 ⟨some 45, Op.pick (Operand.tmp 36) (Operand.tmp 44) (Operand.const (Value.bool false)), _, _, _, none⟩ rfl (fun _ _ _ h => h) ?_ hHeld ?_
            rotate_left
            · (intro W _; go_simp <;> (try with_reducible rfl))
            refine wpAnyH_done (by kernel_rfl) ?_ _
            refine NoPanic.normal ?_
            clear hHeld
            obtain ⟨wz, hwz⟩ : ∃ y, y = w2.drew := ⟨_, rfl⟩
            have HA3 : Hid (ApS tyPromise 96 w0 wz v2 (([] : List (Sh.T shPromise)) ++ l.take k ++ [(mkPm nd b t)] : List (Sh.T shPromise))) := Hid.intro (hwz ▸ HA2.out.next rfl (below_drew _))
            rw [← hwz]
            clear hwz HA2
            go_wp2_with (first
              | (at_builtin; refine wpList_appx rfl (.tmp 48) (.tmp 51) 40 96 rfl i0 (.agg #[.int .i64 0, .int .i64 0, .string ⟨#[]⟩]) 32 w0.heap.size tyPromise rfl Try.underlying40 hi0 hz0 hz1 hz2 rfl (by decide) v2 (([] : List (Sh.T shPromise)) ++ (l.take k) ++ [(mkPm nd b t)] : List (Sh.T shPromise)) (l.drop (k + 1)) _ rfl HA3.out.1 (if cap = k + 1 then some ⟨g, 0, none⟩ else some ⟨g, (k + 1) * 3, none⟩) (cap - (k + 1)) (congrArg (fun z => Value.slice (if cap = k + 1 then some ⟨g, 0, none⟩ else some ⟨g, (k + 1) * 3, none⟩) z (cap - (k + 1))) hld.symm) (HD.out.next HA3.out.2) hb3 hc3 HA3.out.2.size ?_; intro v3 w3 hO3 hg3 hwh3; have HA4 := Hid.intro (ApS.app (e := tyPromise) (l2 := (l.drop (k + 1))) rfl HA3.out hO3 hg3); clear hO3 hg3 hwh3)
              | go_in)
            all_goals go_ret
            all_goals exact ⟨_, rfl, (HF.out ▸ HA4.out.up HX.out.2.2)⟩
          · have hyn' : (y == nd) = false := by simpa using hyn
            have hld : (l.drop k).length = n - k := by rw [List.length_drop]; have := HN.out; omega
            have HD : Hid (Lies w0 (.list shPromise) [.slice (some ⟨g, k * 3, none⟩) (l.drop k).length (cap - k)] (l.drop k)) := Hid.intro (by rw [hld]; exact (by have := lies_drop HX.out.2.1 k hk; rw [show (0 + k * Sh.c shPromise : Nat) = k * 3 from Nat.zero_add _] at this; exact this))
            have HF : Hid ([] ++ l.take k ++ [(mkPm nd b t)] ++ l.drop k = putP l (mkPm nd b t)) := Hid.intro (by
              have h1 : lsP l nd = k := HLS.out
              have h2 : hsP l nd = false := hsP_no HO.out (fun i hi q => by
                have h3 : nd < pnd l[k] := by rw [← HY.out]; omega
                rcases Nat.lt_or_ge k i with q2 | q2
                · have := pw_at HR.out q2 hi; omega
                · have : i = k := by omega
                  subst this; exact h3)
              unfold putP
              rw [show pnd (mkPm nd b t) = nd from rfl, h2, h1]; simp)
            have hb1 : 0 + ((l.take k) : List (Sh.T shPromise)).length ≤ maxLen := by simp only [List.length_append, List.length_cons, List.length_nil, List.nil_append, hlk, hld]; unfold maxLen; omega
            have hc1 : (0 + ((l.take k) : List (Sh.T shPromise)).length) * 32 ≤ 140737488355328 := by simp only [List.length_append, List.length_cons, List.length_nil, List.nil_append, hlk, hld]; omega
            have hb2 : (([] : List (Sh.T shPromise)) ++ (l.take k)).length + 1 ≤ maxLen := by simp only [List.length_append, List.length_cons, List.length_nil, List.nil_append, hlk, hld]; unfold maxLen; omega
            have hc2 : ((([] : List (Sh.T shPromise)) ++ (l.take k)).length + 1) * 32 ≤ 140737488355328 := by simp only [List.length_append, List.length_cons, List.length_nil, List.nil_append, hlk, hld]; omega
            have hb3 : (([] : List (Sh.T shPromise)) ++ (l.take k) ++ [(mkPm nd b t)]).length + ((l.drop k) : List (Sh.T shPromise)).length ≤ maxLen := by simp only [List.length_append, List.length_cons, List.length_nil, List.nil_append, hlk, hld]; unfold maxLen; omega
            have hc3 : ((([] : List (Sh.T shPromise)) ++ (l.take k) ++ [(mkPm nd b t)]).length + ((l.drop k) : List (Sh.T shPromise)).length) * 32 ≤ 140737488355328 := by simp only [List.length_append, List.length_cons, List.length_nil, List.nil_append, hlk, hld]; omega
            go_upto_region 7 with (first
              | (at_builtin; refine wpList_appx rfl (.tmp 23) (.tmp 26) 40 96 rfl i0 (.agg #[.int .i64 0, .int .i64 0, .string ⟨#[]⟩]) 32 w0.heap.size tyPromise rfl Try.underlying40 hi0 hz0 hz1 hz2 rfl (by decide) (.slice none 0 0) [] (l.take k) (fun _ => False) rfl OwnX.nil' (some ⟨g, 0, none⟩) cap (congrArg (fun z => Value.slice (some ⟨g, 0, none⟩) z cap) hlk.symm) HT.out hb1 hc1 H1.out.size ?_; intro v1 w1 hO1 hg1 hwh1; have HA1 := Hid.intro (ApS.app (e := tyPromise) (l2 := (l.take k)) rfl (ApS.nil' H1.out) hO1 hg1); have HA1a := Hid.intro (HA1.out.next rfl (Go.Joins.below_alloc1 w1 (.cells #[.int .i64 nd, .int .i64 b, .string t] 96))); have HA1b := Hid.intro (lies_one (w := w1) (e := shPromise) (cs := [.int .i64 nd, .int .i64 b, .string t]) (x := (mkPm nd b t)) 96 rfl mk_Promise); have G1 := HX.out.1.next HA1.out.2; have y0 := G1.cell 0 rfl; have y1 := G1.cell 1 rfl; have y2 := G1.cell 2 rfl; have yz := G1.2; clear hO1 hg1 hwh1 G1)
              | (at_builtin; refine wpList_appx rfl (.tmp 28) (.tmp 30) 40 96 rfl i0 (.agg #[.int .i64 0, .int .i64 0, .string ⟨#[]⟩]) 32 w0.heap.size tyPromise rfl Try.underlying40 hi0 hz0 hz1 hz2 rfl (by decide) v1 (([] : List (Sh.T shPromise)) ++ (l.take k) : List (Sh.T shPromise)) [(mkPm nd b t)] _ rfl HA1a.out.1 (some ⟨w1.heap.size, 0, none⟩) 1 rfl HA1b.out hb2 hc2 HA1a.out.2.size ?_; intro v2 w2 hO2 hg2 hwh2; have HA2 := Hid.intro (ApS.app (e := tyPromise) (l2 := [(mkPm nd b t)]) rfl HA1a.out hO2 hg2); clear hO2 hg2 hwh2 y0 y1 y2 yz HA1a HA1b HA1)
              | go_in)
            refine wp_region_noPanic ?_
            refine wp_region_held_drew (S := fun W => Bx W w.heap.size [.int .i64 nd, .int .i64 b, .string t] ∧ W.cell? ⟨g, k * 3, none⟩ = some (.int .i64 y)) (by kernel_rfl) ⟨HX.out.1.next HA2.out.2.drew, by rw [HY.out]; exact pm_cell (HX.out.2.1.next HA2.out.2.drew) hlx⟩ (fun hHeld => ?_)
            refine take_v (v := ?_) 0 ⟨some 32, Op.move (Operand.tmp 5), _, _, _, none⟩ rfl (fun _ _ _ h => h) ?_ hHeld ?_
            rotate_left
            · (intro W _; go_simp <;> (try with_reducible rfl))
            refine take_v (v := ?_) 1 ⟨some 33, Op.move (Operand.tmp 0), _, _, _, none⟩ rfl (fun _ _ _ h => h) ?_ hHeld ?_
            rotate_left
            · (intro W _; go_simp <;> (try with_reducible rfl))
            refine take_v (v := ?_) 2 ⟨some 34, Op.call { callee := Callee.builtin Builtin.len, args := #[Operand.tmp 33], argTypes := #[40] }, _, _, _, none⟩ rfl (fun _ _ _ h => h) ?_ hHeld ?_
            rotate_left
            · (intro W _; go_simp <;> (try with_reducible rfl))
            refine take_v (v := ?_) 3 ⟨some 35, Op.binOp BinOp.lss 3 (Operand.tmp 32) (Operand.tmp 34) 3, _, _, _, none⟩ rfl (fun _ _ _ h => h) ?_ hHeld ?_
            rotate_left
            · (intro W _; go_simp <;> (try with_reducible rfl))
            refine take_v (v := ?_) 4 ⟨some 36, Op.move (Operand.tmp 35), _, _, _, none⟩ rfl (fun _ _ _ h => h) ?_ hHeld ?_
            rotate_left
            · (intro W _; go_simp <;> (try with_reducible rfl))
            refine take_v (v := ?_) 5 ⟨some 37, Op.move (Operand.tmp 0), _, _, _, some (4, true)⟩ rfl (fun _ _ _ h => h) ?_ hHeld ?_
            rotate_left
            · (intro W _; go_simp <;> (try with_reducible rfl))
            refine take_v (v := ?_) 6 ⟨some 38, Op.move (Operand.tmp 5), _, _, _, some (4, true)⟩ rfl (fun _ _ _ h => h) ?_ hHeld ?_
            rotate_left
            · (intro W _; go_simp <;> (try with_reducible rfl))
            refine take_v (v := ?_) 7 ⟨some 39, Op.indexAddr 40 (Operand.tmp 37) (Operand.tmp 38), _, _, _, some (4, true)⟩ rfl (fun _ _ _ h => h) ?_ hHeld ?_
            rotate_left
            · (intro W _; go_simp <;> (try with_reducible rfl))
            refine take_v (v := ?_) 8 ⟨some 40, Op.fieldAddr 96 (Operand.tmp 39) 0, _, _, _, some (4, true)⟩ rfl (fun _ _ _ h => h) ?_ hHeld ?_
            rotate_left
            · (intro W _; go_simp <;> (try with_reducible rfl))
            refine take_v (v := ?_) 9 ⟨some 41, Op.load 3 (Operand.tmp 40), _, _, _, some (4, true)⟩ rfl (fun _ _ _ h => h) ?_ hHeld ?_
            rotate_left
            · (intro W hSW; (have s0 := hSW.1.cell 0 rfl; have s1 := hSW.1.2; have s2 := hSW.2); go_simp <;> (try with_reducible rfl))
            refine take_v (v := ?_) 10 ⟨some 42, Op.fieldAddr 96 (Operand.tmp 3) 0, _, _, _, some (4, true)⟩ rfl (fun _ _ _ h => h) ?_ hHeld ?_
            rotate_left
            · (intro W _; go_simp <;> (try with_reducible rfl))
            refine take_v (v := ?_) 11 ⟨some 43, Op.load 3 (Operand.tmp 42), _, _, _, some (4, true)⟩ rfl (fun _ _ _ h => h) ?_ hHeld ?_
            rotate_left
            · (intro W hSW; (have s0 := hSW.1.cell 0 rfl; have s1 := hSW.1.2; have s2 := hSW.2); go_simp <;> (try with_reducible rfl))
            refine take_v (v := ?_) 12 ⟨some 44, Op.binOp BinOp.eql 3 (Operand.tmp 41) (Operand.tmp 43) 3, _, _, _, some (4, true)⟩ rfl (fun _ _ _ h => h) ?_ hHeld ?_
            rotate_left
            · (intro W _; go_simp <;> (try with_reducible rfl))
            refine take_v (v := ?_) 13 ⟨some 45, Op.pick (Operand.tmp 36) (Operand.tmp 44) (Operand.const (Value.bool false)), _, _, _, none⟩ rfl (fun _ _ _ h => h) ?_ hHeld ?_
            rotate_left
            · (intro W _; go_simp <;> (try with_reducible rfl))
            refine wpAnyH_done (by kernel_rfl) ?_ _
            refine NoPanic.normal ?_
            clear hHeld
            obtain ⟨wz, hwz⟩ : ∃ y, y = w2.drew := ⟨_, rfl⟩
            have HA3 : Hid (ApS tyPromise 96 w0 wz v2 (([] : List (Sh.T shPromise)) ++ l.take k ++ [(mkPm nd b t)] : List (Sh.T shPromise))) := Hid.intro (hwz ▸ HA2.out.next rfl (below_drew _))
            rw [← hwz]
            clear hwz HA2
            go_wp2_with (first
              | (at_builtin; refine wpList_appx rfl (.tmp 48) (.tmp 51) 40 96 rfl i0 (.agg #[.int .i64 0, .int .i64 0, .string ⟨#[]⟩]) 32 w0.heap.size tyPromise rfl Try.underlying40 hi0 hz0 hz1 hz2 rfl (by decide) v2 (([] : List (Sh.T shPromise)) ++ (l.take k) ++ [(mkPm nd b t)] : List (Sh.T shPromise)) (l.drop k) _ rfl HA3.out.1 (some ⟨g, k * 3, none⟩) (cap - k) (congrArg (fun z => Value.slice (some ⟨g, k * 3, none⟩) z (cap - k)) hld.symm) (HD.out.next HA3.out.2) hb3 hc3 HA3.out.2.size ?_; intro v3 w3 hO3 hg3 hwh3; have HA4 := Hid.intro (ApS.app (e := tyPromise) (l2 := (l.drop k)) rfl HA3.out hO3 hg3); clear hO3 hg3 hwh3)
              | go_in)
            all_goals go_ret
            all_goals exact ⟨_, rfl, (HF.out ▸ HA4.out.up HX.out.2.2)⟩
      · have hkn : n ≤ k := by omega
        go_upto_region 2 with fail
        refine wp_region_noPanic ?_
        refine wp_region_held_drew (S := fun W => Bx W w.heap.size [.int .i64 nd, .int .i64 b, .string t]) (by kernel_rfl) (HX.out.1.next H1.out) (fun hHeld => ?_)
        refine take_v (v := ?_) 0 ⟨some 7, Op.move (Operand.tmp 5), _, _, _, none⟩ rfl (fun _ _ _ h => h) ?_ hHeld ?_
        rotate_left
        · (intro W _; go_simp <;> (try with_reducible rfl))
        refine take_v (v := ?_) 1 ⟨some 8, Op.move (Operand.tmp 0), _, _, _, none⟩ rfl (fun _ _ _ h => h) ?_ hHeld ?_
        rotate_left
        · (intro W _; go_simp <;> (try with_reducible rfl))
        refine take_v (v := ?_) 2 ⟨some 9, Op.call { callee := Callee.builtin Builtin.len, args := #[Operand.tmp 8], argTypes := #[40] }, _, _, _, none⟩ rfl (fun _ _ _ h => h) ?_ hHeld ?_
        rotate_left
        · (intro W _; go_simp <;> (try with_reducible rfl))
        refine take_v (v := ?_) 3 ⟨some 10, Op.binOp BinOp.lss 3 (Operand.tmp 7) (Operand.tmp 9) 3, _, _, _, none⟩ rfl (fun _ _ _ h => h) ?_ hHeld ?_
        rotate_left
        · (intro W _; go_simp <;> (try with_reducible rfl))
        refine take_v (v := ?_) 4 ⟨some 11, Op.move (Operand.tmp 10), _, _, _, none⟩ rfl (fun _ _ _ h => h) ?_ hHeld ?_
        rotate_left
        · (intro W _; go_simp <;> (try with_reducible rfl))
        refine take_n 5 ⟨some 12, Op.move (Operand.tmp 0), _, _, _, some (4, true)⟩ rfl (fun _ _ _ h => h) hHeld ?_
        refine take_n 6 ⟨some 13, Op.move (Operand.tmp 5), _, _, _, some (4, true)⟩ rfl (fun _ _ _ h => h) hHeld ?_
        refine take_n 7 ⟨some 14, Op.indexAddr 40 (Operand.tmp 12) (Operand.tmp 13), _, _, _, some (4, true)⟩ rfl (fun _ _ _ h => h) hHeld ?_
        refine take_n 8 ⟨some 15, Op.fieldAddr 96 (Operand.tmp 14) 0, _, _, _, some (4, true)⟩ rfl (fun _ _ _ h => h) hHeld ?_
        refine take_n 9 ⟨some 16, Op.load 3 (Operand.tmp 15), _, _, _, some (4, true)⟩ rfl (fun _ _ _ h => h) hHeld ?_
        refine take_n 10 ⟨some 17, Op.fieldAddr 96 (Operand.tmp 3) 0, _, _, _, some (4, true)⟩ rfl (fun _ _ _ h => h) hHeld ?_
        refine take_n 11 ⟨some 18, Op.load 3 (Operand.tmp 17), _, _, _, some (4, true)⟩ rfl (fun _ _ _ h => h) hHeld ?_
        refine take_n 12 ⟨some 19, Op.binOp BinOp.lss 3 (Operand.tmp 16) (Operand.tmp 18) 3, _, _, _, some (4, true)⟩ rfl (fun _ _ _ h => h) hHeld ?_
        refine take_v (v := ?_) 13 ⟨some 20, Op.pick (Operand.tmp 11) (Operand.tmp 19) (Operand.const (Value.bool false)), _, _, _, none⟩ rfl (fun _ _ _ h => h) ?_ hHeld ?_
        rotate_left
        · (intro W _; go_simp <;> (try with_reducible rfl))
        refine wpAnyH_done (by kernel_rfl) ?_ _
        refine NoPanic.normal ?_
        clear hHeld
        obtain ⟨wd, hwd⟩ : ∃ y, y = wr.drew := ⟨_, rfl⟩
        rw [← hwd] at H1 ⊢
        clear hwd
        have hlk : (l.take k).length = k := by rw [List.length_take]; have := HN.out; omega
        have hk : k ≤ l.length := by have := HN.out; omega
        have HT : Hid (Lies wd (.list shPromise) [.slice (some ⟨g, 0, none⟩) (l.take k).length cap] (l.take k)) := Hid.intro (by rw [hlk]; exact (HX.out.2.1.next H1.out).take k hk)
        have hkc : (k : Int) ≤ (cap : Int) := by omega
        have HE : Hid (l.drop k = []) := Hid.intro (List.drop_eq_nil_of_le (by have := HN.out; omega))
        have HD : Hid (Lies w0 (.list shPromise) [.slice (if cap = k then some ⟨g, 0, none⟩ else some ⟨g, k * 3, none⟩) 0 (cap - k)] []) := Hid.intro (by obtain ⟨ad9, c9, e9, h91, h92, _⟩ := HX.out.2.1; simp only [List.cons.injEq, Value.slice.injEq, and_true] at e9; obtain ⟨_, _, rfl⟩ := e9; exact ⟨_, _, rfl, by simp, by omega, Or.inl rfl⟩)
        have HF : Hid ([] ++ l.take k ++ [(mkPm nd b t)] ++ [] = putP l (mkPm nd b t)) := Hid.intro (by
          have h1 : lsP l nd = k := lsP_at HR.out hk HO.out (fun i hi q => by have := HN.out; omega)
          have h2 : hsP l nd = false := hsP_no HO.out (fun i hi q => by have := HN.out; omega)
          unfold putP
          rw [show pnd (mkPm nd b t) = nd from rfl, h2, h1, HE.out]; simp)
        have hb1 : 0 + ((l.take k) : List (Sh.T shPromise)).length ≤ maxLen := by simp only [List.length_append, List.length_cons, List.length_nil, List.nil_append, hlk]; unfold maxLen; omega
        have hc1 : (0 + ((l.take k) : List (Sh.T shPromise)).length) * 32 ≤ 140737488355328 := by simp only [List.length_append, List.length_cons, List.length_nil, List.nil_append, hlk]; omega
        have hb2 : (([] : List (Sh.T shPromise)) ++ (l.take k)).length + 1 ≤ maxLen := by simp only [List.length_append, List.length_cons, List.length_nil, List.nil_append, hlk]; unfold maxLen; omega
        have hc2 : ((([] : List (Sh.T shPromise)) ++ (l.take k)).length + 1) * 32 ≤ 140737488355328 := by simp only [List.length_append, List.length_cons, List.length_nil, List.nil_append, hlk]; omega
        have hb3 : (([] : List (Sh.T shPromise)) ++ (l.take k) ++ [(mkPm nd b t)]).length + ([] : List (Sh.T shPromise)).length ≤ maxLen := by simp only [List.length_append, List.length_cons, List.length_nil, List.nil_append, hlk]; unfold maxLen; omega
        have hc3 : ((([] : List (Sh.T shPromise)) ++ (l.take k) ++ [(mkPm nd b t)]).length + ([] : List (Sh.T shPromise)).length) * 32 ≤ 140737488355328 := by simp only [List.length_append, List.length_cons, List.length_nil, List.nil_append, hlk]; omega
        go_upto_region 7 with (first
          | (at_builtin; refine wpList_appx rfl (.tmp 23) (.tmp 26) 40 96 rfl i0 (.agg #[.int .i64 0, .int .i64 0, .string ⟨#[]⟩]) 32 w0.heap.size tyPromise rfl Try.underlying40 hi0 hz0 hz1 hz2 rfl (by decide) (.slice none 0 0) [] (l.take k) (fun _ => False) rfl OwnX.nil' (some ⟨g, 0, none⟩) cap (congrArg (fun z => Value.slice (some ⟨g, 0, none⟩) z cap) hlk.symm) HT.out hb1 hc1 H1.out.size ?_; intro v1 w1 hO1 hg1 hwh1; have HA1 := Hid.intro (ApS.app (e := tyPromise) (l2 := (l.take k)) rfl (ApS.nil' H1.out) hO1 hg1); have HA1a := Hid.intro (HA1.out.next rfl (Go.Joins.below_alloc1 w1 (.cells #[.int .i64 nd, .int .i64 b, .string t] 96))); have HA1b := Hid.intro (lies_one (w := w1) (e := shPromise) (cs := [.int .i64 nd, .int .i64 b, .string t]) (x := (mkPm nd b t)) 96 rfl mk_Promise); have G1 := HX.out.1.next HA1.out.2; have y0 := G1.cell 0 rfl; have y1 := G1.cell 1 rfl; have y2 := G1.cell 2 rfl; have yz := G1.2; clear hO1 hg1 hwh1 G1)
          | (at_builtin; refine wpList_appx rfl (.tmp 28) (.tmp 30) 40 96 rfl i0 (.agg #[.int .i64 0, .int .i64 0, .string ⟨#[]⟩]) 32 w0.heap.size tyPromise rfl Try.underlying40 hi0 hz0 hz1 hz2 rfl (by decide) v1 (([] : List (Sh.T shPromise)) ++ (l.take k) : List (Sh.T shPromise)) [(mkPm nd b t)] _ rfl HA1a.out.1 (some ⟨w1.heap.size, 0, none⟩) 1 rfl HA1b.out hb2 hc2 HA1a.out.2.size ?_; intro v2 w2 hO2 hg2 hwh2; have HA2 := Hid.intro (ApS.app (e := tyPromise) (l2 := [(mkPm nd b t)]) rfl HA1a.out hO2 hg2); clear hO2 hg2 hwh2 y0 y1 y2 yz HA1a HA1b HA1)
          | go_in)
        refine wp_region_noPanic ?_
        refine wp_region_held_drew (S := fun W => Bx W w.heap.size [.int .i64 nd, .int .i64 b, .string t]) (by kernel_rfl) (HX.out.1.next HA2.out.2.drew) (fun hHeld => ?_)
        refine take_v (v := ?_) 0 ⟨some 32, Op.move (Operand.tmp 5), _, _, _, none⟩ rfl (fun _ _ _ h => h) ?_ hHeld ?_
        rotate_left
        · (intro W _; go_simp <;> (try with_reducible rfl))
        refine take_v (v := ?_) 1 ⟨some 33, Op.move (Operand.tmp 0), _, _, _, none⟩ rfl (fun _ _ _ h => h) ?_ hHeld ?_
        rotate_left
        · (intro W _; go_simp <;> (try with_reducible rfl))
        refine take_v (v := ?_) 2 ⟨some 34, Op.call { callee := Callee.builtin Builtin.len, args := #[Operand.tmp 33], argTypes := #[40] }, _, _, _, none⟩ rfl (fun _ _ _ h => h) ?_ hHeld ?_
        rotate_left
        · (intro W _; go_simp <;> (try with_reducible rfl))
        refine take_v (v := ?_) 3 ⟨some 35, Op.binOp BinOp.lss 3 (Operand.tmp 32) (Operand.tmp 34) 3, _, _, _, none⟩ rfl (fun _ _ _ h => h) ?_ hHeld ?_
        rotate_left
        · (intro W _; go_simp <;> (try with_reducible rfl))
        refine take_v (v := ?_) 4 ⟨some 36, Op.move (Operand.tmp 35), _, _, _, none⟩ rfl (fun _ _ _ h => h) ?_ hHeld ?_
        rotate_left
        · (intro W _; go_simp <;> (try with_reducible rfl))
        refine take_n 5 ⟨some 37, Op.move (Operand.tmp 0), _, _, _, some (4, true)⟩ rfl (fun _ _ _ h => h) hHeld ?_
        refine take_n 6 ⟨some 38, Op.move (Operand.tmp 5), _, _, _, some (4, true)⟩ rfl (fun _ _ _ h => h) hHeld ?_
        refine take_n 7 ⟨some 39, Op.indexAddr 40 (Operand.tmp 37) (Operand.tmp 38), _, _, _, some (4, true)⟩ rfl (fun _ _ _ h => h) hHeld ?_
        refine take_n 8 ⟨some 40, Op.fieldAddr 96 (Operand.tmp 39) 0, _, _, _, some (4, true)⟩ rfl (fun _ _ _ h => h) hHeld ?_
        refine take_n 9 ⟨some 41, Op.load 3 (Operand.tmp 40), _, _, _, some (4, true)⟩ rfl (fun _ _ _ h => h) hHeld ?_
        refine take_n 10 ⟨some 42, Op.fieldAddr 96 (Operand.tmp 3) 0, _, _, _, some (4, true)⟩ rfl (fun _ _ _ h => h) hHeld ?_
        refine take_n 11 ⟨some 43, Op.load 3 (Operand.tmp 42), _, _, _, some (4, true)⟩ rfl (fun _ _ _ h => h) hHeld ?_
        refine take_n 12 ⟨some 44, Op.binOp BinOp.eql 3 (Operand.tmp 41) (Operand.tmp 43) 3, _, _, _, some (4, true)⟩ rfl (fun _ _ _ h => h) hHeld ?_
        refine take_v (v := ?_) 13 ⟨some 45, Op.pick (Operand.tmp 36) (Operand.tmp 44) (Operand.const (Value.bool false)), _, _, _, none⟩ rfl (fun _ _ _ h => h) ?_ hHeld ?_
        rotate_left
        · (intro W _; go_simp <;> (try with_reducible rfl))
        refine wpAnyH_done (by kernel_rfl) ?_ _
        refine NoPanic.normal ?_
        clear hHeld
        obtain ⟨wz, hwz⟩ : ∃ y, y = w2.drew := ⟨_, rfl⟩
        have HA3 : Hid (ApS tyPromise 96 w0 wz v2 (([] : List (Sh.T shPromise)) ++ l.take k ++ [(mkPm nd b t)] : List (Sh.T shPromise))) := Hid.intro (hwz ▸ HA2.out.next rfl (below_drew _))
        rw [← hwz]
        clear hwz HA2
        go_wp2_with (first
          | (at_builtin; refine wpList_appx rfl (.tmp 48) (.tmp 51) 40 96 rfl i0 (.agg #[.int .i64 0, .int .i64 0, .string ⟨#[]⟩]) 32 w0.heap.size tyPromise rfl Try.underlying40 hi0 hz0 hz1 hz2 rfl (by decide) v2 (([] : List (Sh.T shPromise)) ++ (l.take k) ++ [(mkPm nd b t)] : List (Sh.T shPromise)) [] _ rfl HA3.out.1 (if cap = k then some ⟨g, 0, none⟩ else some ⟨g, k * 3, none⟩) (cap - k) rfl (HD.out.next HA3.out.2) hb3 hc3 HA3.out.2.size ?_; intro v3 w3 hO3 hg3 hwh3; have HA4 := Hid.intro (ApS.app (e := tyPromise) (l2 := []) rfl HA3.out hO3 hg3); clear hO3 hg3 hwh3)
          | go_in)
        all_goals go_ret
        all_goals exact ⟨_, rfl, (HF.out ▸ HA4.out.up HX.out.2.2)⟩
end Go.Proofs.Ytmhkfangfhanlaa
