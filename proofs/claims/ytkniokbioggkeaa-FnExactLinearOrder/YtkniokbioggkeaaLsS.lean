/- The contracts of the specification's (*l7S).search and l7Search. Written by tools/mkLsS.py. -/
import Derived.Test.YtkniokbioggkeaaLsM
namespace Go.Proofs.Ytkniokbioggkeaa
open Go.RowKit
set_option linter.unusedVariables false

theorem below_nxl {w0 W W' : World} {lo : Nat} (h : Below lo w0 W) (hg : lo ≤ W.heap.size) (hb : Below W.heap.size W W') : Below lo w0 W' := h.trans (hb.mono hg)
/-- What search answers. -/
def SePost (own : Bool) (lo : Nat) (w0 : World) (g ub : Nat) (a : Option Addr) (n cap : Nat) (V : Nat → CallV) (d : Nat) (ord : List Nat) (KB : List (Nat × Obj)) (r : Ending) (w' : World) : Prop :=
  (∃ o, srch V n own d ord = some o ∧ r = .returned (.bool true) ∧ TwoS lo w0 w' g ub a n cap own V o KB) ∨ (srch V n own d ord = none ∧ r = .returned (.bool false) ∧ TwoS lo w0 w' g ub a n cap own V ord KB)
theorem mayB_used {V : Nat → CallV} {n : Nat} {own : Bool} {ord : List Nat} {i : Nat} (h : ord.contains i = true) : mayB V n own ord i = false := by simp only [mayB, h, Bool.not_true, Bool.false_and]
theorem mayB_un {V : Nat → CallV} {n : Nat} {own : Bool} {ord : List Nat} {i : Nat} (h : ord.contains i = false) : mayB V n own ord i = (fitB V ord i && !waitB V n own ord i) := by simp only [mayB, h, Bool.not_false, Bool.true_and]
/-- The block of a row, and that it can be put back. -/
theorem own_back {w : World} {base : Nat} {e : TypeId} {size : Nat} {v : Value} {n : Nat} {xs : List Value} (h : w.ownsRow base e size v n xs) : ∃ KL : List (Nat × Obj), (∀ b, v.ownBlock = some b → ∃ p ∈ KL, p.1 = b) ∧ (∀ p ∈ KL, w.heap[p.1]? = some p.2 ∧ v.ownBlock = some p.1) ∧ ∀ W : World, (∀ p ∈ KL, W.heap[p.1]? = some p.2) → W.ownsRow base e size v n xs := by
  obtain ⟨h1, h2⟩ := h
  rcases h2 with h2 | ⟨b, cap, cur, hv, hb, hh, r⟩
  · exact ⟨[], (fun b hb => by rw [h2.1] at hb; cases hb), (fun p hp => by simp at hp), fun W _ => ⟨h1, Or.inl h2⟩⟩
  · refine ⟨[(b, .cells cur e (0, 0))], (fun b' hb' => ⟨(b, .cells cur e (0, 0)), by simp, by rw [hv] at hb'; cases hb'; rfl⟩), fun p hp => ?_, fun W hW => ⟨h1, Or.inr ⟨b, cap, cur, hv, hb, hW (b, .cells cur e (0, 0)) (by simp), r⟩⟩⟩
    simp at hp; subst hp; exact ⟨hh, by rw [hv]; rfl⟩

set_option maxRecDepth 100000 in
set_option maxHeartbeats 16000000 in
theorem search_any (own : Bool) (lo : Nat) (w0 : World) (g ub : Nat) (a : Option Addr) (n cap : Nat) (V : Nat → CallV) (hC : TwoC lo w0 g ub a n cap V) : ∀ (d : Nat) (ord : List Nat) (KB : List (Nat × Obj)) (w : World), OrdOk n ord → ord.length + d = n → TwoS lo w0 w g ub a n cap own V ord KB →
    Calls Try.prog 62 #[.pointer (some ⟨g, 0, none⟩)] w fun r w' => SePost own lo w0 g ub a n cap V d ord KB r w' := by
  obtain ⟨i0, hi0, hz0, hz1, hz2⟩ := info_parts info_int7
  intro d
  induction d with
  | zero =>
    intro ord KB w hok hlen h
    obtain ⟨L, ov, lv, h1, h2, h3⟩ := h
    obtain ⟨oa, oc, rfl⟩ : ∃ oa oc, ov = .slice oa ord.length oc := by
      rcases Go.Joins.ownsRow_forms h1.2.2.1 with ⟨e, e'⟩ | ⟨gg, cc, e⟩
      · exact ⟨none, 0, by rw [e, e']⟩
      · exact ⟨_, _, e⟩
    have HB : Hid (Bx w.drew g [.slice a n cap, .bool own, .slice (some ⟨ub, 0, none⟩) n n, .slice oa ord.length oc, lv]) := h1.1.next (Below.refl _ _).drew
    have HZ : Hid (SePost own lo w0 g ub a n cap V 0 ord KB (.returned (.bool true)) w.drew) := Or.inl ⟨ord, rfl, rfl, L, _, lv, h1.next (Below.refl _ _).drew, h2, h3.drew⟩
    have heq : ((ord.length : Int) == (n : Int)) = true := by rw [beq_iff_eq]; omega
    clear h1 h2 h3 hC hok
    go_enter Try.func62, Try.ntmps62
    go_upto_region 1 with fail
    refine wp_region_noPanic ?_
    refine wp_region_held_drew (S := fun W => Bx W g [.slice a n cap, .bool own, .slice (some ⟨ub, 0, none⟩) n n, .slice oa ord.length oc, lv]) (by kernel_rfl) HB.out (fun hHeld => ?_)
    refine take_v (v := ?_) 0 ⟨some 6, Op.move (Operand.tmp 0), _, _, _, none⟩ rfl (fun _ _ _ h => h) ?_ hHeld ?_
    rotate_left
    · (intro W _; go_simp <;> (try with_reducible rfl))
    refine take_v (v := ?_) 1 ⟨some 7, Op.nilCheck (Operand.tmp 6), _, _, _, none⟩ rfl (fun _ _ _ h => h) ?_ hHeld ?_
    rotate_left
    · (intro W _; go_simp <;> (try with_reducible rfl))
    refine take_v (v := ?_) 2 ⟨some 8, Op.fieldAddr 82 (Operand.tmp 7) 3, _, _, _, none⟩ rfl (fun _ _ _ h => h) ?_ hHeld ?_
    rotate_left
    · (intro W _; go_simp <;> (try with_reducible rfl))
    refine take_v (v := ?_) 3 ⟨some 9, Op.load 32 (Operand.tmp 8), _, _, _, none⟩ rfl (fun _ _ _ h => h) ?_ hHeld ?_
    rotate_left
    · (intro W hSW; (have s0 := hSW.cell 0 rfl; have s3 := hSW.cell 3 rfl; have sz := hSW.2); go_simp <;> (try with_reducible rfl))
    refine take_v (v := ?_) 4 ⟨some 10, Op.call { callee := Callee.builtin Builtin.len, args := #[Operand.tmp 9], argTypes := #[32] }, _, _, _, none⟩ rfl (fun _ _ _ h => h) ?_ hHeld ?_
    rotate_left
    · (intro W _; go_simp <;> (try with_reducible rfl))
    refine take_v (v := ?_) 5 ⟨some 11, Op.move (Operand.tmp 0), _, _, _, none⟩ rfl (fun _ _ _ h => h) ?_ hHeld ?_
    rotate_left
    · (intro W _; go_simp <;> (try with_reducible rfl))
    refine take_v (v := ?_) 6 ⟨some 12, Op.nilCheck (Operand.tmp 11), _, _, _, none⟩ rfl (fun _ _ _ h => h) ?_ hHeld ?_
    rotate_left
    · (intro W _; go_simp <;> (try with_reducible rfl))
    refine take_v (v := ?_) 7 ⟨some 13, Op.fieldAddr 82 (Operand.tmp 12) 0, _, _, _, none⟩ rfl (fun _ _ _ h => h) ?_ hHeld ?_
    rotate_left
    · (intro W _; go_simp <;> (try with_reducible rfl))
    refine take_v (v := ?_) 8 ⟨some 14, Op.load 23 (Operand.tmp 13), _, _, _, none⟩ rfl (fun _ _ _ h => h) ?_ hHeld ?_
    rotate_left
    · (intro W hSW; (have s0 := hSW.cell 0 rfl; have s3 := hSW.cell 3 rfl; have sz := hSW.2); go_simp <;> (try with_reducible rfl))
    refine take_v (v := ?_) 9 ⟨some 15, Op.call { callee := Callee.builtin Builtin.len, args := #[Operand.tmp 14], argTypes := #[23] }, _, _, _, none⟩ rfl (fun _ _ _ h => h) ?_ hHeld ?_
    rotate_left
    · (intro W _; go_simp <;> (try with_reducible rfl))
    refine take_v (v := ?_) 10 ⟨some 16, Op.binOp BinOp.eql 3 (Operand.tmp 10) (Operand.tmp 15) 3, _, _, _, none⟩ rfl (fun _ _ _ h => h) ?_ hHeld ?_
    rotate_left
    · (intro W _; go_simp <;> (try with_reducible rfl))
    refine wpAnyH_done (by kernel_rfl) ?_ _
    refine NoPanic.normal ?_
    clear hHeld
    go_wp2
    go_ret
    exact HZ.out
  | succ d ih =>
    intro ord KB w hok hlen h
    have h7 := hC.n7
    rcases hC.sl with hsl | ⟨b, off, rfl, hbs0, hE0⟩
    · omega
    have HC : Hid (TwoC lo w0 g ub (some ⟨b, off, none⟩) n cap V) := hC
    have HO : Hid (OrdOk n ord) := hok
    have HIH : Hid (∀ (ord : List Nat) (KB : List (Nat × Obj)) (w : World), OrdOk n ord → ord.length + d = n → TwoS lo w0 w g ub (some ⟨b, off, none⟩) n cap own V ord KB → Calls Try.prog 62 #[.pointer (some ⟨g, 0, none⟩)] w fun r w' => SePost own lo w0 g ub (some ⟨b, off, none⟩) n cap V d ord KB r w') := ih
    have HEl : Hid (∀ W, Below lo w0 W → Elems W b off n 6 (callF V) ∧ b < W.heap.size) := fun W hW => by
      have hbl : b < lo := Nat.lt_of_lt_of_le hbs0 HC.out.lo0
      exact ⟨hE0.below hW hbl, Nat.lt_of_lt_of_le hbs0 hW.size⟩
    clear hok hC ih hE0
    obtain ⟨L, ov, lv, h1, h2, h3⟩ := h
    have HX : Hid (TwoS lo w0 w.drew g ub (some ⟨b, off, none⟩) n cap own V ord KB) := ⟨L, ov, lv, h1.next (Below.refl _ _).drew, h2, h3.drew⟩
    obtain ⟨oa, oc, rfl⟩ : ∃ oa oc, ov = .slice oa ord.length oc := by
      rcases Go.Joins.ownsRow_forms h1.2.2.1 with ⟨e, e'⟩ | ⟨gg, cc, e⟩
      · exact ⟨none, 0, by rw [e, e']⟩
      · exact ⟨_, _, e⟩
    have HB : Hid (Bx w.drew g [.slice (some ⟨b, off, none⟩) n cap, .bool own, .slice (some ⟨ub, 0, none⟩) n n, .slice oa ord.length oc, lv]) := h1.1.next (Below.refl _ _).drew
    have heq : ((ord.length : Int) == (n : Int)) = false := by rw [beq_eq_false_iff_ne]; omega
    clear h1 h2 h3
    go_enter Try.func62, Try.ntmps62
    go_upto_region 1 with fail
    refine wp_region_noPanic ?_
    refine wp_region_held_drew (S := fun W => Bx W g [.slice (some ⟨b, off, none⟩) n cap, .bool own, .slice (some ⟨ub, 0, none⟩) n n, .slice oa ord.length oc, lv]) (by kernel_rfl) HB.out (fun hHeld => ?_)
    refine take_v (v := ?_) 0 ⟨some 6, Op.move (Operand.tmp 0), _, _, _, none⟩ rfl (fun _ _ _ h => h) ?_ hHeld ?_
    rotate_left
    · (intro W _; go_simp <;> (try with_reducible rfl))
    refine take_v (v := ?_) 1 ⟨some 7, Op.nilCheck (Operand.tmp 6), _, _, _, none⟩ rfl (fun _ _ _ h => h) ?_ hHeld ?_
    rotate_left
    · (intro W _; go_simp <;> (try with_reducible rfl))
    refine take_v (v := ?_) 2 ⟨some 8, Op.fieldAddr 82 (Operand.tmp 7) 3, _, _, _, none⟩ rfl (fun _ _ _ h => h) ?_ hHeld ?_
    rotate_left
    · (intro W _; go_simp <;> (try with_reducible rfl))
    refine take_v (v := ?_) 3 ⟨some 9, Op.load 32 (Operand.tmp 8), _, _, _, none⟩ rfl (fun _ _ _ h => h) ?_ hHeld ?_
    rotate_left
    · (intro W hSW; (have s0 := hSW.cell 0 rfl; have s3 := hSW.cell 3 rfl; have sz := hSW.2); go_simp <;> (try with_reducible rfl))
    refine take_v (v := ?_) 4 ⟨some 10, Op.call { callee := Callee.builtin Builtin.len, args := #[Operand.tmp 9], argTypes := #[32] }, _, _, _, none⟩ rfl (fun _ _ _ h => h) ?_ hHeld ?_
    rotate_left
    · (intro W _; go_simp <;> (try with_reducible rfl))
    refine take_v (v := ?_) 5 ⟨some 11, Op.move (Operand.tmp 0), _, _, _, none⟩ rfl (fun _ _ _ h => h) ?_ hHeld ?_
    rotate_left
    · (intro W _; go_simp <;> (try with_reducible rfl))
    refine take_v (v := ?_) 6 ⟨some 12, Op.nilCheck (Operand.tmp 11), _, _, _, none⟩ rfl (fun _ _ _ h => h) ?_ hHeld ?_
    rotate_left
    · (intro W _; go_simp <;> (try with_reducible rfl))
    refine take_v (v := ?_) 7 ⟨some 13, Op.fieldAddr 82 (Operand.tmp 12) 0, _, _, _, none⟩ rfl (fun _ _ _ h => h) ?_ hHeld ?_
    rotate_left
    · (intro W _; go_simp <;> (try with_reducible rfl))
    refine take_v (v := ?_) 8 ⟨some 14, Op.load 23 (Operand.tmp 13), _, _, _, none⟩ rfl (fun _ _ _ h => h) ?_ hHeld ?_
    rotate_left
    · (intro W hSW; (have s0 := hSW.cell 0 rfl; have s3 := hSW.cell 3 rfl; have sz := hSW.2); go_simp <;> (try with_reducible rfl))
    refine take_v (v := ?_) 9 ⟨some 15, Op.call { callee := Callee.builtin Builtin.len, args := #[Operand.tmp 14], argTypes := #[23] }, _, _, _, none⟩ rfl (fun _ _ _ h => h) ?_ hHeld ?_
    rotate_left
    · (intro W _; go_simp <;> (try with_reducible rfl))
    refine take_v (v := ?_) 10 ⟨some 16, Op.binOp BinOp.eql 3 (Operand.tmp 10) (Operand.tmp 15) 3, _, _, _, none⟩ rfl (fun _ _ _ h => h) ?_ hHeld ?_
    rotate_left
    · (intro W _; go_simp <;> (try with_reducible rfl))
    refine wpAnyH_done (by kernel_rfl) ?_ _
    refine NoPanic.normal ?_
    clear hHeld
    obtain ⟨wd, hwd⟩ : ∃ y, y = w.drew := ⟨_, rfl⟩
    rw [← hwd] at HX HB ⊢
    clear hwd
    have k0 := HB.out.cell 0 rfl
    have kz := HB.out.2
    go_wp2
    clear k0 kz HB
    go_loopw [22] (fun z wr => ∃ k : Nat, k ≤ n ∧ z = .int .i64 k ∧ noneTo V n own d ord k ∧ TwoS lo w0 wr g ub (some ⟨b, off, none⟩) n cap own V ord KB) (fun z _ => n - (intOf z).toNat)
    case atStart => exact ⟨0, Nat.zero_le _, rfl, fun j hj => absurd hj (by omega), HX.out⟩
    case round =>
      obtain ⟨k, hk, rfl, hno, hone⟩ := hrel
      clear HX
      have HN : Hid (noneTo V n own d ord k) := hno
      clear hno
      by_cases hlt : k < n
      · have hlt' : (k : Int) < (n : Int) := by omega
        obtain ⟨L, ovq, lvq, h1, h2, h3⟩ := hone
        have hLl := h2.len
        obtain ⟨oq, oqc, rfl⟩ : ∃ oa oc, ovq = .slice oa ord.length oc := by
          rcases Go.Joins.ownsRow_forms h1.2.2.1 with ⟨e, e'⟩ | ⟨gg, cc, e⟩
          · exact ⟨none, 0, by rw [e, e']⟩
          · exact ⟨_, _, e⟩
        obtain ⟨la, lc, rfl, hlc, hrow⟩ := SRow.of (F := cellF (cV L)) (c := 2) h1.2.2.2.1
        obtain ⟨KL, hK1, hK2, hK3⟩ := own_back h1.2.2.2.1
        have hd := Go.Joins.below_alloc1 wr (.cells #[.int .i64 (V k).f0, .bool (V k).f1, .string (V k).f2, .string (V k).f3, .int .i64 (V k).f4, .int .i64 (V k).f5] 28)
        have h1' : Two lo wr g ub (some ⟨b, off, none⟩) n cap own ord ord L (.slice oq ord.length oqc) (.slice la L.length lc) (KL ++ KB) := ⟨h1.1, h1.2.1, h1.2.2.1, h1.2.2.2.1, h1.2.2.2.2.1, fun p hp => by
          rcases List.mem_append.1 hp with hp | hp
          · obtain ⟨e1, e2⟩ := hK2 p hp
            exact ⟨e1, fun e => h1.2.2.2.2.1.2.2.2.1 (by rw [← e]; exact e2), fun e => h1.2.2.2.2.1.2.2.2.2.1 (by rw [← e]; exact e2), fun e => h1.2.2.2.2.1.2.2.2.2.2 _ e e2⟩
          · exact h1.2.2.2.2.2 p hp⟩
        have HL : Hid ((∀ b', (Value.slice la L.length lc).ownBlock = some b' → ∃ p ∈ KL, p.1 = b') ∧ (∀ W : World, (∀ p ∈ KL, W.heap[p.1]? = some p.2) → W.ownsRow lo 71 2 (.slice la L.length lc) L.length (cellsC L)) ∧ (Value.slice la L.length lc).ownBlock ≠ some g ∧ (Value.slice la L.length lc).ownBlock ≠ some ub) := ⟨hK1, hK3, h1.2.2.2.2.1.2.2.2.1, h1.2.2.2.2.1.2.2.2.2.1⟩
        have HS : Hid (Sees V n ord L) := h2
        have hzw : lo ≤ wr.heap.size := Nat.le_trans HC.out.log (Nat.le_of_lt h1.1.2)
        have HQ : Hid (Two lo (wr.alloc (.cells #[.int .i64 (V k).f0, .bool (V k).f1, .string (V k).f2, .string (V k).f3, .int .i64 (V k).f4, .int .i64 (V k).f5] 28)) g ub (some ⟨b, off, none⟩) n cap own ord ord L (.slice oq ord.length oqc) (.slice la L.length lc) (KL ++ KB) ∧ Bx (wr.alloc (.cells #[.int .i64 (V k).f0, .bool (V k).f1, .string (V k).f2, .string (V k).f3, .int .i64 (V k).f4, .int .i64 (V k).f5] 28)) wr.heap.size [.int .i64 (V k).f0, .bool (V k).f1, .string (V k).f2, .string (V k).f3, .int .i64 (V k).f4, .int .i64 (V k).f5] ∧ Below lo w0 (wr.alloc (.cells #[.int .i64 (V k).f0, .bool (V k).f1, .string (V k).f2, .string (V k).f3, .int .i64 (V k).f4, .int .i64 (V k).f5] 28))) := ⟨h1'.next hd, Bx.new wr [.int .i64 (V k).f0, .bool (V k).f1, .string (V k).f2, .string (V k).f3, .int .i64 (V k).f4, .int .i64 (V k).f5] _, below_nxl h3 hzw hd⟩
        have HT0 : Hid (TwoS lo w0 (wr.alloc (.cells #[.int .i64 (V k).f0, .bool (V k).f1, .string (V k).f2, .string (V k).f3, .int .i64 (V k).f4, .int .i64 (V k).f5] 28)) g ub (some ⟨b, off, none⟩) n cap own V ord KB) := ⟨L, _, _, h1.next hd, h2, below_nxl h3 hzw hd⟩
        obtain ⟨c0, c1, c2, c3, c4, c5⟩ := call_cells (HEl.out wr h3).1 hlt
        have hbw := (HEl.out wr h3).2
        have s2 := h1.1.cell 2 rfl
        have sz := h1.1.2
        have sne : g ≠ wr.heap.size := Nat.ne_of_lt h1.1.2
        have hgw : wr.heap.size ≠ g := fun e => sne e.symm
        have t0 := h1.2.1.cell k (usedC_at ord hlt)
        have tz := h1.2.1.2
        clear h1 h1' h2 h3 hrow hK1 hK2 hK3 hd
        cases eu : ord.contains k
        case true =>
          have HN1 : Hid (noneTo V n own d ord (k + 1)) := noneTo_up HN.out (fun h => by rw [mayB_used eu] at h; cases h)
          rw [eu] at t0
          go_wp2
          go_roundw
          case rel => exact ⟨k + 1, by omega, by go_num, HN1.out, HT0.out⟩
          case measure => simp [intOf]; omega
        rw [eu] at t0
        go_wp2_with fail
        refine (may_any own lo w0 _ g ub (some ⟨b, off, none⟩) n cap V ord L _ _ (KL ++ KB) k HC.out hlt HQ.out.1 HS.out HQ.out.2.2).mono ?_
        rintro r w1 ⟨rfl, hb⟩
        have hq1 : lo ≤ (wr.alloc (.cells #[.int .i64 (V k).f0, .bool (V k).f1, .string (V k).f2, .string (V k).f3, .int .i64 (V k).f4, .int .i64 (V k).f5] 28)).heap.size := Nat.le_trans HC.out.log (Nat.le_of_lt HQ.out.1.1.2)
        have HQ := (show Hid (Two lo w1 g ub (some ⟨b, off, none⟩) n cap own ord ord L (.slice oq ord.length oqc) (.slice la L.length lc) (KL ++ KB) ∧ Bx w1 wr.heap.size [.int .i64 (V k).f0, .bool (V k).f1, .string (V k).f2, .string (V k).f3, .int .i64 (V k).f4, .int .i64 (V k).f5] ∧ Below lo w0 w1) from ⟨HQ.out.1.next hb, HQ.out.2.1.next hb, below_nxl HQ.out.2.2 hq1 hb⟩)
        have HM : Hid (mayB V n own ord k = (fitB V ord k && !waitB V n own ord k)) := mayB_un eu
        clear hb HT0 c0 c1 c2 c3 c4 c5 hbw s2 sz sne t0 tz hq1
        cases em : (fitB V ord k && !waitB V n own ord k)
        · have HN1 : Hid (noneTo V n own d ord (k + 1)) := noneTo_up HN.out (fun h => by rw [HM.out, em] at h; cases h)
          have HT0 : Hid (TwoS lo w0 w1 g ub (some ⟨b, off, none⟩) n cap own V ord KB) := ⟨L, _, _, HQ.out.1.sub (fun p hp => List.mem_append.2 (Or.inr hp)), HS.out, HQ.out.2.2⟩
          go_wp2
          go_roundw
          case rel => exact ⟨k + 1, by omega, by go_num, HN1.out, HT0.out⟩
          case measure => simp [intOf]; omega
        have HY : Hid (mayB V n own ord k = true ∧ k ∉ ord) := ⟨HM.out.trans em, by simpa using eu⟩
        clear HM em eu
        have s4 := HQ.out.1.1.cell 4 rfl
        have sz := HQ.out.1.1.2
        have t1 := HQ.out.2.1.cell 1 rfl
        have tz := HQ.out.2.1.2
        cases hw : (V k).f1
        · rw [hw] at t1
          have HQ := (show Hid (Two lo w1 g ub (some ⟨b, off, none⟩) n cap own ord ord L (.slice oq ord.length oqc) (.slice la L.length lc) (KL ++ KB) ∧ Sees V n (ord ++ [k]) L ∧ Below lo w0 w1) from ⟨HQ.out.1, HS.out.read hw, HQ.out.2.2⟩)
          go_upto_region 10 with fail
          clear s4 sz t1 tz
          have u0 := HQ.out.1.1.cell 2 rfl
          have uz := HQ.out.1.1.2
          have u1 := HQ.out.1.2.1.cell k (usedC_at ord hlt)
          have u2 := HQ.out.1.2.1.frz k (by rw [usedC_len]; exact hlt)
          have u3' := HQ.out.1.2.1.2
          go_upto_region 11 with fail
          have HQ := (show Hid (_ ∧ _ ∧ _) from ⟨HQ.out.1.setU (i := k) (b := true) (usd' := (ord ++ [k])) hlt (usedC_set n ord k), HQ.out.2.1, HQ.out.2.2.setCell (p := ⟨ub, k, none⟩) HC.out.lou (.bool true)⟩)
          clear u0 uz u1 u2 u3'
          obtain ⟨w2, hw2⟩ := Bx.name HQ.out.1.1
          rw [← hw2] at HQ ⊢
          clear hw2
          have u0 := HQ.out.1.1.cell 3 rfl
          have uz := HQ.out.1.1.2
          have HNW : Hid (∀ j u, [Value.int .i64 (k : Int)][j]? = some u → (w2.alloc (.cells #[.int .i64 (k : Int)] 3)).cell? ((⟨w2.heap.size, 0, none⟩ : Addr).add j) = some u) := cells_new w2 [.int .i64 (k : Int)] 3
          have HQ2 := (show Hid (_ ∧ _) from ⟨HQ.out.1.next (Go.Joins.below_alloc1 w2 (.cells #[.int .i64 (k : Int)] 3)), below_nxl HQ.out.2.2 (Nat.le_trans HC.out.log (Nat.le_of_lt HQ.out.1.1.2)) (Go.Joins.below_alloc1 w2 (.cells #[.int .i64 (k : Int)] 3))⟩)
          go_wp2_with (at_builtin; refine wpList_append_own_at _ rfl (.tmp 69) (.tmp 71) 32 rfl lo 3 i0 (.int .i64 0) 1 8 Try.underlying32 hi0 hz0 hz1 hz2 rfl (by decide) (.slice oq ord.length oqc) ord.length (ordC ord) rfl HQ2.out.1.2.2.1 ⟨w2.heap.size, 0, none⟩ 1 1 [.int .i64 (k : Int)] rfl rfl HNW.out (by intro u hu; simp at hu; subst hu; rfl) (by unfold maxLen; omega) (by omega) (Nat.le_trans HC.out.log (Nat.le_of_lt HQ2.out.1.1.2)) ?_; intro v4 w4 hown hgrow hnil hwhere; obtain ⟨g4, c4, rfl⟩ := Go.Joins.ownsRow_form hown (by omega); have hg4 := HQ2.out.1.1.blk (hgrow.block g HQ2.out.1.1.2 (fun e => HQ2.out.1.2.2.2.2.1.2.1 e.symm)) hgrow.size; have y0 := hg4.cell 3 rfl; have y1 := hg4.frz 3 (by simp); have y2 := hg4.2)
          have H12 := (show Hid (TwoS lo w0 (w4.setCell ⟨g, 3, none⟩ (.slice (some ⟨g4, 0, none⟩) (ord.length + 1) c4)) g ub (some ⟨b, off, none⟩) n cap own V (ord ++ [k]) (KL ++ KB)) from ⟨_, _, _, HQ2.out.1.putO hgrow (by rw [ordC_snoc, List.length_append]; exact hown) hwhere, HQ.out.2.1, HQ2.out.1.belowO HQ2.out.2 HC.out.log hgrow _ _⟩)
          clear hown hgrow hnil hwhere hg4 y0 y1 y2 u0 uz HNW HQ HQ2
          refine (HIH.out (ord ++ [k]) (KL ++ KB) _ (HO.out.snoc hlt HY.out.2) (by simp; omega) H12.out).mono ?_
          rintro r w5 (⟨o, ho, rfl, hone⟩ | ⟨ho, rfl, hone⟩)
          · have HZ : Hid (SePost own lo w0 g ub (some ⟨b, off, none⟩) n cap V (d + 1) ord KB (.returned (.bool true)) w5) := Or.inl ⟨o, srch_some HN.out hlt HY.out.1 ho, rfl, hone.sub (fun p hp => List.mem_append.2 (Or.inr hp))⟩
            clear ho hone H12
            go_wp2
            go_ret
            exact HZ.out
          · obtain ⟨L5, ov5, lv5, h5, hs5, hb5⟩ := hone
            have HN1 : Hid (noneTo V n own d ord (k + 1)) := noneTo_up HN.out (fun _ => ho)
            clear H12 ho
            obtain ⟨ob, oc, rfl⟩ := Go.Joins.ownsRow_form h5.2.2.1 (by simp)
            obtain ⟨l5, c5, rfl, _, _⟩ := SRow.of (F := cellF (cV L5)) (c := 2) h5.2.2.2.1
            have hlen : (ord ++ [k]).length = ord.length + 1 := by simp
            have hown := h5.2.2.1
            have hocap : ord.length + 1 ≤ oc := by
              rcases hown.2 with ⟨hv, _⟩ | ⟨_, cap', cur, hv, hb, hh, hn, hm, hs, ht⟩
              · cases hv
              · simp only [Value.slice.injEq, Option.some.injEq, Addr.mk.injEq, and_true, true_and] at hv
                obtain ⟨_, rfl⟩ := hv
                simpa using hn
            rw [hlen] at h5 hown
            rw [ordC_snoc] at hown
            have HT : Hid (w5.drew.ownsRow lo 3 1 (.slice (some ⟨ob, 0, none⟩) ord.length oc) ord.length (ordC ord)) := (own_cut hown).drew
            have H5 : Hid (Two lo w5.drew g ub (some ⟨b, off, none⟩) n cap own (ord ++ [k]) (ord ++ [k]) L5 (.slice (some ⟨ob, 0, none⟩) (ord.length + 1) oc) (.slice l5 L5.length c5) (KL ++ KB) ∧ Below lo w0 w5.drew) := ⟨h5.next (Below.refl _ _).drew, hb5.drew⟩
            have hsub : IntKind.i64.wrap (((ord.length + 1 : Nat) : Int) - 1) = (ord.length : Int) := by rw [IntKind.wrap_i64]; omega
            have hsub2 : IntKind.i64.wrap (ord.length : Int) = (ord.length : Int) := by rw [IntKind.wrap_i64]; omega
            have hoc' : (ord.length : Int) ≤ (oc : Int) := by omega
            clear h5 hs5 hb5 hown hlen
            go_upto_region 14 with fail
            go_cut [88] (fun _ wy => Two lo wy g ub (some ⟨b, off, none⟩) n cap own (ord ++ [k]) ord L5 (.slice (some ⟨ob, 0, none⟩) ord.length oc) (.slice l5 L5.length c5) (KL ++ KB) ∧ Below lo w0 wy)
            case first =>
              refine wp_region_noPanic ?_
              refine wp_region_held_drew (S := fun _ => True) (by kernel_rfl) trivial (fun hHeld => ?_)
              refine take_v (v := ?_) 0 ⟨some 77, Op.move (Operand.tmp 0), _, _, _, none⟩ rfl (fun _ _ _ h => h) ?_ hHeld ?_
              rotate_left
              · (intro W _; go_simp <;> (try with_reducible rfl))
              refine take_v (v := ?_) 1 ⟨some 78, Op.move (Operand.tmp 0), _, _, _, none⟩ rfl (fun _ _ _ h => h) ?_ hHeld ?_
              rotate_left
              · (intro W _; go_simp <;> (try with_reducible rfl))
              refine take_v (v := ?_) 2 ⟨some 79, Op.nilCheck (Operand.tmp 78), _, _, _, none⟩ rfl (fun _ _ _ h => h) ?_ hHeld ?_
              rotate_left
              · (intro W _; go_simp <;> (try with_reducible rfl))
              refine take_v (v := ?_) 3 ⟨some 80, Op.fieldAddr 82 (Operand.tmp 79) 3, _, _, _, none⟩ rfl (fun _ _ _ h => h) ?_ hHeld ?_
              rotate_left
              · (intro W _; go_simp <;> (try with_reducible rfl))
              refine take_v (v := ?_) 5 ⟨some 82, Op.move (Operand.tmp 0), _, _, _, none⟩ rfl (fun _ _ _ h => h) ?_ hHeld ?_
              rotate_left
              · (intro W _; go_simp <;> (try with_reducible rfl))
              refine take_v (v := ?_) 6 ⟨some 83, Op.nilCheck (Operand.tmp 82), _, _, _, none⟩ rfl (fun _ _ _ h => h) ?_ hHeld ?_
              rotate_left
              · (intro W _; go_simp <;> (try with_reducible rfl))
              refine take_v (v := ?_) 7 ⟨some 84, Op.fieldAddr 82 (Operand.tmp 83) 3, _, _, _, none⟩ rfl (fun _ _ _ h => h) ?_ hHeld ?_
              rotate_left
              · (intro W _; go_simp <;> (try with_reducible rfl))
              refine ready_two 4 8 ⟨some 81, Op.load 32 (Operand.tmp 80), _, _, _, none⟩ ⟨some 85, Op.load 32 (Operand.tmp 84), _, _, _, none⟩ (by kernel_rfl) rfl rfl (by kernel_rfl) (by kernel_rfl) (fun KC hK => ?_) (fun KC hK => ?_)
              ·
                have k1 := H5.out.1.1.cell 3 rfl
                have kz := H5.out.1.1.2
                go_wp2_with fail
                clear k1 kz
                refine hK.out _ _ trivial (fun hHeld => ?_)
                clear hK KC
                refine ready_call 8 ⟨some 85, Op.load 32 (Operand.tmp 84), _, _, _, none⟩ (by kernel_rfl) rfl (by kernel_rfl) (fun KC hK => ?_)
                have k1 := H5.out.1.1.cell 3 rfl
                have kz := H5.out.1.1.2
                go_wp2_with fail
                clear k1 kz
                refine hK.out _ _ trivial (fun hHeld => ?_)
                clear hK KC
                refine take_v (v := ?_) 9 ⟨some 86, Op.call { callee := Callee.builtin Builtin.len, args := #[Operand.tmp 85], argTypes := #[32] }, _, _, _, none⟩ rfl (fun _ _ _ h => h) ?_ hHeld ?_
                rotate_left
                · (intro W _; go_simp <;> (try with_reducible rfl))
                refine take_v (v := ?_) 10 ⟨some 87, Op.binOp BinOp.sub 3 (Operand.tmp 86) (Operand.const (Value.int IntKind.i64 1)) 3, _, _, _, none⟩ rfl (fun _ _ _ h => h) ?_ hHeld ?_
                rotate_left
                · (intro W _; go_simp <;> (try with_reducible rfl))
                refine take_v (v := ?_) 11 ⟨some 88, Op.slice 32 (Operand.tmp 81) none (some (Operand.tmp 87)) none, _, _, _, none⟩ rfl (fun _ _ _ h => h) ?_ hHeld ?_
                rotate_left
                · (intro W _; go_simp <;> (try with_reducible rfl))
                refine take_v (v := ?_) 12 ⟨some 89, Op.nilCheck (Operand.tmp 77), _, _, _, none⟩ rfl (fun _ _ _ h => h) ?_ hHeld ?_
                rotate_left
                · (intro W _; go_simp <;> (try with_reducible rfl))
                refine take_v (v := ?_) 13 ⟨some 90, Op.fieldAddr 82 (Operand.tmp 89) 3, _, _, _, none⟩ rfl (fun _ _ _ h => h) ?_ hHeld ?_
                rotate_left
                · (intro W _; go_simp <;> (try with_reducible rfl))
                refine ready_call 14 ⟨none, Op.store 32 (Operand.tmp 90) (Operand.tmp 88), _, _, _, none⟩ (by kernel_rfl) rfl (by kernel_rfl) (fun KC hK => ?_)
                have k1 := H5.out.1.1.cell 3 rfl
                have k2 := H5.out.1.1.frz 3 (by simp)
                have kz := H5.out.1.1.2
                go_wp2_with fail
                have HZ := (show Hid (Two lo (w5.drew.setCell ⟨g, 3, none⟩ (.slice (some ⟨ob, 0, none⟩) ord.length oc)) g ub (some ⟨b, off, none⟩) n cap own (ord ++ [k]) ord L5 (.slice (some ⟨ob, 0, none⟩) ord.length oc) (.slice l5 L5.length c5) (KL ++ KB) ∧ Below lo w0 (w5.drew.setCell ⟨g, 3, none⟩ (.slice (some ⟨ob, 0, none⟩) ord.length oc))) from ⟨H5.out.1.putO (grw_below (Below.refl _ _) _) HT.out (Or.inl rfl), H5.out.1.belowO H5.out.2 HC.out.log (grw_below (Below.refl _ _) _) _ _⟩)
                clear k1 k2 kz
                refine hK.out _ _ trivial (fun hHeld => ?_)
                clear hK KC
                refine wpAnyH_done (by kernel_rfl) ?_ _
                refine NoPanic.normal ?_
                go_wp2_with fail
                go_meet
                exact HZ.out
              ·
                have k1 := H5.out.1.1.cell 3 rfl
                have kz := H5.out.1.1.2
                go_wp2_with fail
                clear k1 kz
                refine hK.out _ _ trivial (fun hHeld => ?_)
                clear hK KC
                refine take_v (v := ?_) 9 ⟨some 86, Op.call { callee := Callee.builtin Builtin.len, args := #[Operand.tmp 85], argTypes := #[32] }, _, _, _, none⟩ rfl (fun _ _ _ h => h) ?_ hHeld ?_
                rotate_left
                · (intro W _; go_simp <;> (try with_reducible rfl))
                refine take_v (v := ?_) 10 ⟨some 87, Op.binOp BinOp.sub 3 (Operand.tmp 86) (Operand.const (Value.int IntKind.i64 1)) 3, _, _, _, none⟩ rfl (fun _ _ _ h => h) ?_ hHeld ?_
                rotate_left
                · (intro W _; go_simp <;> (try with_reducible rfl))
                refine ready_call 4 ⟨some 81, Op.load 32 (Operand.tmp 80), _, _, _, none⟩ (by kernel_rfl) rfl (by kernel_rfl) (fun KC hK => ?_)
                have k1 := H5.out.1.1.cell 3 rfl
                have kz := H5.out.1.1.2
                go_wp2_with fail
                clear k1 kz
                refine hK.out _ _ trivial (fun hHeld => ?_)
                clear hK KC
                refine take_v (v := ?_) 11 ⟨some 88, Op.slice 32 (Operand.tmp 81) none (some (Operand.tmp 87)) none, _, _, _, none⟩ rfl (fun _ _ _ h => h) ?_ hHeld ?_
                rotate_left
                · (intro W _; go_simp <;> (try with_reducible rfl))
                refine take_v (v := ?_) 12 ⟨some 89, Op.nilCheck (Operand.tmp 77), _, _, _, none⟩ rfl (fun _ _ _ h => h) ?_ hHeld ?_
                rotate_left
                · (intro W _; go_simp <;> (try with_reducible rfl))
                refine take_v (v := ?_) 13 ⟨some 90, Op.fieldAddr 82 (Operand.tmp 89) 3, _, _, _, none⟩ rfl (fun _ _ _ h => h) ?_ hHeld ?_
                rotate_left
                · (intro W _; go_simp <;> (try with_reducible rfl))
                refine ready_call 14 ⟨none, Op.store 32 (Operand.tmp 90) (Operand.tmp 88), _, _, _, none⟩ (by kernel_rfl) rfl (by kernel_rfl) (fun KC hK => ?_)
                have k1 := H5.out.1.1.cell 3 rfl
                have k2 := H5.out.1.1.frz 3 (by simp)
                have kz := H5.out.1.1.2
                go_wp2_with fail
                have HZ := (show Hid (Two lo (w5.drew.setCell ⟨g, 3, none⟩ (.slice (some ⟨ob, 0, none⟩) ord.length oc)) g ub (some ⟨b, off, none⟩) n cap own (ord ++ [k]) ord L5 (.slice (some ⟨ob, 0, none⟩) ord.length oc) (.slice l5 L5.length c5) (KL ++ KB) ∧ Below lo w0 (w5.drew.setCell ⟨g, 3, none⟩ (.slice (some ⟨ob, 0, none⟩) ord.length oc))) from ⟨H5.out.1.putO (grw_below (Below.refl _ _) _) HT.out (Or.inl rfl), H5.out.1.belowO H5.out.2 HC.out.log (grw_below (Below.refl _ _) _) _ _⟩)
                clear k1 k2 kz
                refine hK.out _ _ trivial (fun hHeld => ?_)
                clear hK KC
                refine wpAnyH_done (by kernel_rfl) ?_ _
                refine NoPanic.normal ?_
                go_wp2_with fail
                go_meet
                exact HZ.out
            case rest =>
              obtain ⟨h6, hb6⟩ := hcut
              have H6 := (show Hid (_ ∧ _) from ⟨h6, hb6⟩)
              clear h6 hb6 H5 HT
              have u0 := H6.out.1.1.cell 2 rfl
              have uz := H6.out.1.1.2
              have u1 := H6.out.1.2.1.cell k (usedC_at (ord ++ [k]) hlt)
              have u2 := H6.out.1.2.1.frz k (by rw [usedC_len]; exact hlt)
              have u3' := H6.out.1.2.1.2
              go_upto_region 16 with fail
              have H6 := (show Hid (_ ∧ _) from ⟨H6.out.1.setU (i := k) (b := false) (usd' := ord) hlt (usedC_unset n ord HY.out.2), H6.out.2.setCell (p := ⟨ub, k, none⟩) HC.out.lou (.bool false)⟩)
              clear u0 uz u1 u2 u3'
              obtain ⟨w7, hw7⟩ := Bx.name H6.out.1.1
              rw [← hw7] at H6 ⊢
              clear hw7
              have u0 := H6.out.1.1.cell 4 rfl
              have u1 := H6.out.1.1.frz 4 (by simp)
              have uz := H6.out.1.1.2
              have HE : Hid (TwoS lo w0 (w7.setCell ⟨g, 4, none⟩ (.slice la L.length lc)) g ub (some ⟨b, off, none⟩) n cap own V ord KB) :=
                ⟨L, _, _, (H6.out.1.setC (L' := L) (lv' := (.slice la L.length lc)) (HL.out.2.1 w7 (fun p hp => (H6.out.1.2.2.2.2.2 p (List.mem_append.2 (Or.inl hp))).1)) HL.out.2.2.1 HL.out.2.2.2 (fun b' hb' e => by
                  obtain ⟨p, hp, hpb⟩ := HL.out.1 b' e
                  exact (H6.out.1.2.2.2.2.2 p (List.mem_append.2 (Or.inl hp))).2.2.2 (by rw [hpb]; exact hb'))).sub (fun p hp => List.mem_append.2 (Or.inr hp)), HS.out, H6.out.2.setCell (p := ⟨g, 4, none⟩) HC.out.log (.slice la L.length lc)⟩
              go_wp2
              go_roundw
              case rel => exact ⟨k + 1, by omega, by go_num, HN1.out, HE.out⟩
              case measure => simp [intOf]; omega
        · rw [hw] at t1
          go_upto_region 9 with fail
          clear s4 sz t1 tz
          go_cut [56] (fun _ wy => ∃ lv' L', Two lo wy g ub (some ⟨b, off, none⟩) n cap own ord ord L' (.slice oq ord.length oqc) lv' (KL ++ KB) ∧ Sees V n (ord ++ [k]) L' ∧ Below lo w0 wy)
          case first =>
            have HQ := (show Hid (_ ∧ _ ∧ _) from ⟨HQ.out.1.next (Below.refl _ _).drew, HQ.out.2.1.next (Below.refl _ _).drew, HQ.out.2.2.drew⟩)
            refine wp_region_noPanic ?_
            refine wp_region_held_drew (S := fun W => Bx W wr.heap.size [.int .i64 (V k).f0, .bool (V k).f1, .string (V k).f2, .string (V k).f3, .int .i64 (V k).f4, .int .i64 (V k).f5]) (by kernel_rfl) HQ.out.2.1 (fun hHeld => ?_)
            refine take_v (v := ?_) 0 ⟨some 46, Op.move (Operand.tmp 0), _, _, _, none⟩ rfl (fun _ _ _ h => h) ?_ hHeld ?_
            rotate_left
            · (intro W _; go_simp <;> (try with_reducible rfl))
            refine take_v (v := ?_) 1 ⟨some 47, Op.move (Operand.tmp 0), _, _, _, none⟩ rfl (fun _ _ _ h => h) ?_ hHeld ?_
            rotate_left
            · (intro W _; go_simp <;> (try with_reducible rfl))
            refine take_v (v := ?_) 2 ⟨some 48, Op.nilCheck (Operand.tmp 47), _, _, _, none⟩ rfl (fun _ _ _ h => h) ?_ hHeld ?_
            rotate_left
            · (intro W _; go_simp <;> (try with_reducible rfl))
            refine take_v (v := ?_) 3 ⟨some 49, Op.fieldAddr 82 (Operand.tmp 48) 4, _, _, _, none⟩ rfl (fun _ _ _ h => h) ?_ hHeld ?_
            rotate_left
            · (intro W _; go_simp <;> (try with_reducible rfl))
            refine take_v (v := ?_) 5 ⟨some 51, Op.fieldAddr 28 (Operand.tmp 4) 2, _, _, _, none⟩ rfl (fun _ _ _ h => h) ?_ hHeld ?_
            rotate_left
            · (intro W _; go_simp <;> (try with_reducible rfl))
            refine take_v (v := ?_) 6 ⟨some 52, Op.load 9 (Operand.tmp 51), _, _, _, none⟩ rfl (fun _ _ _ h => h) ?_ hHeld ?_
            rotate_left
            · (intro W hSW; (have s1 := hSW.cell 2 rfl; have s2 := hSW.cell 3 rfl; have sz := hSW.2); go_simp <;> (try with_reducible rfl))
            refine take_v (v := ?_) 7 ⟨some 53, Op.fieldAddr 28 (Operand.tmp 4) 3, _, _, _, none⟩ rfl (fun _ _ _ h => h) ?_ hHeld ?_
            rotate_left
            · (intro W _; go_simp <;> (try with_reducible rfl))
            refine take_v (v := ?_) 8 ⟨some 54, Op.load 9 (Operand.tmp 53), _, _, _, none⟩ rfl (fun _ _ _ h => h) ?_ hHeld ?_
            rotate_left
            · (intro W hSW; (have s1 := hSW.cell 2 rfl; have s2 := hSW.cell 3 rfl; have sz := hSW.2); go_simp <;> (try with_reducible rfl))
            refine take_v (v := ?_) 9 ⟨some 55, Op.build 71 #[(0, Operand.tmp 52), (1, Operand.tmp 54)], _, _, _, none⟩ rfl (fun _ _ _ h => h) ?_ hHeld ?_
            rotate_left
            · (intro W _; go_simp <;> (try with_reducible rfl))
            refine ready_call 4 ⟨some 50, Op.load 56 (Operand.tmp 49), _, _, _, none⟩ (by kernel_rfl) rfl (by kernel_rfl) (fun KC hK => ?_)
            have k1 := HQ.out.1.1.cell 4 rfl
            have kz := HQ.out.1.1.2
            go_wp2_with fail
            clear k1 kz
            refine hK.out _ _ hHeld (fun hHeld => ?_)
            clear hK KC
            refine ready_call 10 ⟨some 56, Op.call { callee := Callee.value (Operand.func 49), args := #[Operand.tmp 50, Operand.tmp 55], argTypes := #[56, 71] }, _, _, _, none⟩ (by kernel_rfl) rfl (by kernel_rfl) (fun KC hK => ?_)
            go_wp2_with fail
            refine (l3Cells_new lo _ _ L ⟨(V k).f2, (V k).f3⟩ _ (by omega) (Nat.le_refl _) HQ.out.1.2.2.2.1).mono ?_
            rintro r w5 ⟨v5, rfl, ho5, hb5⟩
            obtain ⟨a5, c5, rfl, _, _⟩ := SRow.of (F := cellF (cV (putL L ⟨(V k).f2, (V k).f3⟩))) (c := 2) ho5
            have hb5 := hb5 _ _ (Below.refl _ _) (Nat.le_refl _) (Nat.le_refl _)
            have hlo5 : lo ≤ w1.drew.heap.size := Nat.le_trans HC.out.log (Nat.le_of_lt HQ.out.1.1.2)
            have HQ5 := (show Hid (_ ∧ _ ∧ _) from ⟨HQ.out.1.next hb5, HQ.out.2.1.next hb5, below_nxl HQ.out.2.2 hlo5 hb5⟩)
            refine hK.out _ _ HQ5.out.2.1 (fun hHeld => ?_)
            clear hK KC
            refine take_v (v := ?_) 11 ⟨some 57, Op.nilCheck (Operand.tmp 46), _, _, _, none⟩ rfl (fun _ _ _ h => h) ?_ hHeld ?_
            rotate_left
            · (intro W _; go_simp <;> (try with_reducible rfl))
            refine take_v (v := ?_) 12 ⟨some 58, Op.fieldAddr 82 (Operand.tmp 57) 4, _, _, _, none⟩ rfl (fun _ _ _ h => h) ?_ hHeld ?_
            rotate_left
            · (intro W _; go_simp <;> (try with_reducible rfl))
            refine ready_call 13 ⟨none, Op.store 56 (Operand.tmp 58) (Operand.tmp 56), _, _, _, none⟩ (by kernel_rfl) rfl (by kernel_rfl) (fun KC hK => ?_)
            have k1 := HQ5.out.1.1.cell 4 rfl
            have k2 := HQ5.out.1.1.frz 4 (by simp)
            have kz := HQ5.out.1.1.2
            go_wp2_with fail
            have hfr : ∀ b', b' < w1.drew.heap.size → (Value.slice a5 (putL L ⟨(V k).f2, (V k).f3⟩).length c5).ownBlock ≠ some b' := fun b' hb' e => by have := (ho5.lt b' e).1; omega
            have HZ := (show Hid (Two lo (w5.setCell ⟨g, 4, none⟩ (.slice a5 (putL L ⟨(V k).f2, (V k).f3⟩).length c5)) g ub (some ⟨b, off, none⟩) n cap own ord ord (putL L ⟨(V k).f2, (V k).f3⟩) (.slice oq ord.length oqc) (.slice a5 (putL L ⟨(V k).f2, (V k).f3⟩).length c5) (KL ++ KB) ∧ Sees V n (ord ++ [k]) (putL L ⟨(V k).f2, (V k).f3⟩) ∧ Below lo w0 (w5.setCell ⟨g, 4, none⟩ (.slice a5 (putL L ⟨(V k).f2, (V k).f3⟩).length c5))) from ⟨HQ5.out.1.setC (own_lo ho5 hlo5) (hfr g HQ.out.1.1.2) (hfr ub HQ.out.1.2.1.2) (fun b' hb' => hfr b' (HQ.out.1.2.2.1.lt b' hb').2), HS.out.write hlt hw, HQ5.out.2.2.setCell (p := ⟨g, 4, none⟩) HC.out.log _⟩)
            have hbx := HQ5.out.2.1.other (g' := g) (q := 4) (v := .slice a5 (putL L ⟨(V k).f2, (V k).f3⟩).length c5) (hgw)
            clear k1 k2 kz ho5 hb5
            refine hK.out _ _ hbx (fun hHeld => ?_)
            clear hK KC
            refine wpAnyH_done (by kernel_rfl) ?_ _
            refine NoPanic.normal ?_
            go_wp2_with fail
            go_meet
            exact ⟨_, _, HZ.out⟩
          case rest =>
            obtain ⟨lvw, Lw, hO, hV, hB⟩ := hcut
            have HQ := (show Hid (_ ∧ _ ∧ _) from ⟨hO, hV, hB⟩)
            clear hO hV hB
            go_upto_region 10 with fail
            have u0 := HQ.out.1.1.cell 2 rfl
            have uz := HQ.out.1.1.2
            have u1 := HQ.out.1.2.1.cell k (usedC_at ord hlt)
            have u2 := HQ.out.1.2.1.frz k (by rw [usedC_len]; exact hlt)
            have u3' := HQ.out.1.2.1.2
            go_upto_region 11 with fail
            have HQ := (show Hid (_ ∧ _ ∧ _) from ⟨HQ.out.1.setU (i := k) (b := true) (usd' := (ord ++ [k])) hlt (usedC_set n ord k), HQ.out.2.1, HQ.out.2.2.setCell (p := ⟨ub, k, none⟩) HC.out.lou (.bool true)⟩)
            clear u0 uz u1 u2 u3'
            obtain ⟨w2, hw2⟩ := Bx.name HQ.out.1.1
            rw [← hw2] at HQ ⊢
            clear hw2
            have u0 := HQ.out.1.1.cell 3 rfl
            have uz := HQ.out.1.1.2
            have HNW : Hid (∀ j u, [Value.int .i64 (k : Int)][j]? = some u → (w2.alloc (.cells #[.int .i64 (k : Int)] 3)).cell? ((⟨w2.heap.size, 0, none⟩ : Addr).add j) = some u) := cells_new w2 [.int .i64 (k : Int)] 3
            have HQ2 := (show Hid (_ ∧ _) from ⟨HQ.out.1.next (Go.Joins.below_alloc1 w2 (.cells #[.int .i64 (k : Int)] 3)), below_nxl HQ.out.2.2 (Nat.le_trans HC.out.log (Nat.le_of_lt HQ.out.1.1.2)) (Go.Joins.below_alloc1 w2 (.cells #[.int .i64 (k : Int)] 3))⟩)
            go_wp2_with (at_builtin; refine wpList_append_own_at _ rfl (.tmp 69) (.tmp 71) 32 rfl lo 3 i0 (.int .i64 0) 1 8 Try.underlying32 hi0 hz0 hz1 hz2 rfl (by decide) (.slice oq ord.length oqc) ord.length (ordC ord) rfl HQ2.out.1.2.2.1 ⟨w2.heap.size, 0, none⟩ 1 1 [.int .i64 (k : Int)] rfl rfl HNW.out (by intro u hu; simp at hu; subst hu; rfl) (by unfold maxLen; omega) (by omega) (Nat.le_trans HC.out.log (Nat.le_of_lt HQ2.out.1.1.2)) ?_; intro v4 w4 hown hgrow hnil hwhere; obtain ⟨g4, c4, rfl⟩ := Go.Joins.ownsRow_form hown (by omega); have hg4 := HQ2.out.1.1.blk (hgrow.block g HQ2.out.1.1.2 (fun e => HQ2.out.1.2.2.2.2.1.2.1 e.symm)) hgrow.size; have y0 := hg4.cell 3 rfl; have y1 := hg4.frz 3 (by simp); have y2 := hg4.2)
            have H12 := (show Hid (TwoS lo w0 (w4.setCell ⟨g, 3, none⟩ (.slice (some ⟨g4, 0, none⟩) (ord.length + 1) c4)) g ub (some ⟨b, off, none⟩) n cap own V (ord ++ [k]) (KL ++ KB)) from ⟨_, _, _, HQ2.out.1.putO hgrow (by rw [ordC_snoc, List.length_append]; exact hown) hwhere, HQ.out.2.1, HQ2.out.1.belowO HQ2.out.2 HC.out.log hgrow _ _⟩)
            clear hown hgrow hnil hwhere hg4 y0 y1 y2 u0 uz HNW HQ HQ2
            refine (HIH.out (ord ++ [k]) (KL ++ KB) _ (HO.out.snoc hlt HY.out.2) (by simp; omega) H12.out).mono ?_
            rintro r w5 (⟨o, ho, rfl, hone⟩ | ⟨ho, rfl, hone⟩)
            · have HZ : Hid (SePost own lo w0 g ub (some ⟨b, off, none⟩) n cap V (d + 1) ord KB (.returned (.bool true)) w5) := Or.inl ⟨o, srch_some HN.out hlt HY.out.1 ho, rfl, hone.sub (fun p hp => List.mem_append.2 (Or.inr hp))⟩
              clear ho hone H12
              go_wp2
              go_ret
              exact HZ.out
            · obtain ⟨L5, ov5, lv5, h5, hs5, hb5⟩ := hone
              have HN1 : Hid (noneTo V n own d ord (k + 1)) := noneTo_up HN.out (fun _ => ho)
              clear H12 ho
              obtain ⟨ob, oc, rfl⟩ := Go.Joins.ownsRow_form h5.2.2.1 (by simp)
              obtain ⟨l5, c5, rfl, _, _⟩ := SRow.of (F := cellF (cV L5)) (c := 2) h5.2.2.2.1
              have hlen : (ord ++ [k]).length = ord.length + 1 := by simp
              have hown := h5.2.2.1
              have hocap : ord.length + 1 ≤ oc := by
                rcases hown.2 with ⟨hv, _⟩ | ⟨_, cap', cur, hv, hb, hh, hn, hm, hs, ht⟩
                · cases hv
                · simp only [Value.slice.injEq, Option.some.injEq, Addr.mk.injEq, and_true, true_and] at hv
                  obtain ⟨_, rfl⟩ := hv
                  simpa using hn
              rw [hlen] at h5 hown
              rw [ordC_snoc] at hown
              have HT : Hid (w5.drew.ownsRow lo 3 1 (.slice (some ⟨ob, 0, none⟩) ord.length oc) ord.length (ordC ord)) := (own_cut hown).drew
              have H5 : Hid (Two lo w5.drew g ub (some ⟨b, off, none⟩) n cap own (ord ++ [k]) (ord ++ [k]) L5 (.slice (some ⟨ob, 0, none⟩) (ord.length + 1) oc) (.slice l5 L5.length c5) (KL ++ KB) ∧ Below lo w0 w5.drew) := ⟨h5.next (Below.refl _ _).drew, hb5.drew⟩
              have hsub : IntKind.i64.wrap (((ord.length + 1 : Nat) : Int) - 1) = (ord.length : Int) := by rw [IntKind.wrap_i64]; omega
              have hsub2 : IntKind.i64.wrap (ord.length : Int) = (ord.length : Int) := by rw [IntKind.wrap_i64]; omega
              have hoc' : (ord.length : Int) ≤ (oc : Int) := by omega
              clear h5 hs5 hb5 hown hlen
              go_upto_region 14 with fail
              go_cut [88] (fun _ wy => Two lo wy g ub (some ⟨b, off, none⟩) n cap own (ord ++ [k]) ord L5 (.slice (some ⟨ob, 0, none⟩) ord.length oc) (.slice l5 L5.length c5) (KL ++ KB) ∧ Below lo w0 wy)
              case first =>
                refine wp_region_noPanic ?_
                refine wp_region_held_drew (S := fun _ => True) (by kernel_rfl) trivial (fun hHeld => ?_)
                refine take_v (v := ?_) 0 ⟨some 77, Op.move (Operand.tmp 0), _, _, _, none⟩ rfl (fun _ _ _ h => h) ?_ hHeld ?_
                rotate_left
                · (intro W _; go_simp <;> (try with_reducible rfl))
                refine take_v (v := ?_) 1 ⟨some 78, Op.move (Operand.tmp 0), _, _, _, none⟩ rfl (fun _ _ _ h => h) ?_ hHeld ?_
                rotate_left
                · (intro W _; go_simp <;> (try with_reducible rfl))
                refine take_v (v := ?_) 2 ⟨some 79, Op.nilCheck (Operand.tmp 78), _, _, _, none⟩ rfl (fun _ _ _ h => h) ?_ hHeld ?_
                rotate_left
                · (intro W _; go_simp <;> (try with_reducible rfl))
                refine take_v (v := ?_) 3 ⟨some 80, Op.fieldAddr 82 (Operand.tmp 79) 3, _, _, _, none⟩ rfl (fun _ _ _ h => h) ?_ hHeld ?_
                rotate_left
                · (intro W _; go_simp <;> (try with_reducible rfl))
                refine take_v (v := ?_) 5 ⟨some 82, Op.move (Operand.tmp 0), _, _, _, none⟩ rfl (fun _ _ _ h => h) ?_ hHeld ?_
                rotate_left
                · (intro W _; go_simp <;> (try with_reducible rfl))
                refine take_v (v := ?_) 6 ⟨some 83, Op.nilCheck (Operand.tmp 82), _, _, _, none⟩ rfl (fun _ _ _ h => h) ?_ hHeld ?_
                rotate_left
                · (intro W _; go_simp <;> (try with_reducible rfl))
                refine take_v (v := ?_) 7 ⟨some 84, Op.fieldAddr 82 (Operand.tmp 83) 3, _, _, _, none⟩ rfl (fun _ _ _ h => h) ?_ hHeld ?_
                rotate_left
                · (intro W _; go_simp <;> (try with_reducible rfl))
                refine ready_two 4 8 ⟨some 81, Op.load 32 (Operand.tmp 80), _, _, _, none⟩ ⟨some 85, Op.load 32 (Operand.tmp 84), _, _, _, none⟩ (by kernel_rfl) rfl rfl (by kernel_rfl) (by kernel_rfl) (fun KC hK => ?_) (fun KC hK => ?_)
                ·
                  have k1 := H5.out.1.1.cell 3 rfl
                  have kz := H5.out.1.1.2
                  go_wp2_with fail
                  clear k1 kz
                  refine hK.out _ _ trivial (fun hHeld => ?_)
                  clear hK KC
                  refine ready_call 8 ⟨some 85, Op.load 32 (Operand.tmp 84), _, _, _, none⟩ (by kernel_rfl) rfl (by kernel_rfl) (fun KC hK => ?_)
                  have k1 := H5.out.1.1.cell 3 rfl
                  have kz := H5.out.1.1.2
                  go_wp2_with fail
                  clear k1 kz
                  refine hK.out _ _ trivial (fun hHeld => ?_)
                  clear hK KC
                  refine take_v (v := ?_) 9 ⟨some 86, Op.call { callee := Callee.builtin Builtin.len, args := #[Operand.tmp 85], argTypes := #[32] }, _, _, _, none⟩ rfl (fun _ _ _ h => h) ?_ hHeld ?_
                  rotate_left
                  · (intro W _; go_simp <;> (try with_reducible rfl))
                  refine take_v (v := ?_) 10 ⟨some 87, Op.binOp BinOp.sub 3 (Operand.tmp 86) (Operand.const (Value.int IntKind.i64 1)) 3, _, _, _, none⟩ rfl (fun _ _ _ h => h) ?_ hHeld ?_
                  rotate_left
                  · (intro W _; go_simp <;> (try with_reducible rfl))
                  refine take_v (v := ?_) 11 ⟨some 88, Op.slice 32 (Operand.tmp 81) none (some (Operand.tmp 87)) none, _, _, _, none⟩ rfl (fun _ _ _ h => h) ?_ hHeld ?_
                  rotate_left
                  · (intro W _; go_simp <;> (try with_reducible rfl))
                  refine take_v (v := ?_) 12 ⟨some 89, Op.nilCheck (Operand.tmp 77), _, _, _, none⟩ rfl (fun _ _ _ h => h) ?_ hHeld ?_
                  rotate_left
                  · (intro W _; go_simp <;> (try with_reducible rfl))
                  refine take_v (v := ?_) 13 ⟨some 90, Op.fieldAddr 82 (Operand.tmp 89) 3, _, _, _, none⟩ rfl (fun _ _ _ h => h) ?_ hHeld ?_
                  rotate_left
                  · (intro W _; go_simp <;> (try with_reducible rfl))
                  refine ready_call 14 ⟨none, Op.store 32 (Operand.tmp 90) (Operand.tmp 88), _, _, _, none⟩ (by kernel_rfl) rfl (by kernel_rfl) (fun KC hK => ?_)
                  have k1 := H5.out.1.1.cell 3 rfl
                  have k2 := H5.out.1.1.frz 3 (by simp)
                  have kz := H5.out.1.1.2
                  go_wp2_with fail
                  have HZ := (show Hid (Two lo (w5.drew.setCell ⟨g, 3, none⟩ (.slice (some ⟨ob, 0, none⟩) ord.length oc)) g ub (some ⟨b, off, none⟩) n cap own (ord ++ [k]) ord L5 (.slice (some ⟨ob, 0, none⟩) ord.length oc) (.slice l5 L5.length c5) (KL ++ KB) ∧ Below lo w0 (w5.drew.setCell ⟨g, 3, none⟩ (.slice (some ⟨ob, 0, none⟩) ord.length oc))) from ⟨H5.out.1.putO (grw_below (Below.refl _ _) _) HT.out (Or.inl rfl), H5.out.1.belowO H5.out.2 HC.out.log (grw_below (Below.refl _ _) _) _ _⟩)
                  clear k1 k2 kz
                  refine hK.out _ _ trivial (fun hHeld => ?_)
                  clear hK KC
                  refine wpAnyH_done (by kernel_rfl) ?_ _
                  refine NoPanic.normal ?_
                  go_wp2_with fail
                  go_meet
                  exact HZ.out
                ·
                  have k1 := H5.out.1.1.cell 3 rfl
                  have kz := H5.out.1.1.2
                  go_wp2_with fail
                  clear k1 kz
                  refine hK.out _ _ trivial (fun hHeld => ?_)
                  clear hK KC
                  refine take_v (v := ?_) 9 ⟨some 86, Op.call { callee := Callee.builtin Builtin.len, args := #[Operand.tmp 85], argTypes := #[32] }, _, _, _, none⟩ rfl (fun _ _ _ h => h) ?_ hHeld ?_
                  rotate_left
                  · (intro W _; go_simp <;> (try with_reducible rfl))
                  refine take_v (v := ?_) 10 ⟨some 87, Op.binOp BinOp.sub 3 (Operand.tmp 86) (Operand.const (Value.int IntKind.i64 1)) 3, _, _, _, none⟩ rfl (fun _ _ _ h => h) ?_ hHeld ?_
                  rotate_left
                  · (intro W _; go_simp <;> (try with_reducible rfl))
                  refine ready_call 4 ⟨some 81, Op.load 32 (Operand.tmp 80), _, _, _, none⟩ (by kernel_rfl) rfl (by kernel_rfl) (fun KC hK => ?_)
                  have k1 := H5.out.1.1.cell 3 rfl
                  have kz := H5.out.1.1.2
                  go_wp2_with fail
                  clear k1 kz
                  refine hK.out _ _ trivial (fun hHeld => ?_)
                  clear hK KC
                  refine take_v (v := ?_) 11 ⟨some 88, Op.slice 32 (Operand.tmp 81) none (some (Operand.tmp 87)) none, _, _, _, none⟩ rfl (fun _ _ _ h => h) ?_ hHeld ?_
                  rotate_left
                  · (intro W _; go_simp <;> (try with_reducible rfl))
                  refine take_v (v := ?_) 12 ⟨some 89, Op.nilCheck (Operand.tmp 77), _, _, _, none⟩ rfl (fun _ _ _ h => h) ?_ hHeld ?_
                  rotate_left
                  · (intro W _; go_simp <;> (try with_reducible rfl))
                  refine take_v (v := ?_) 13 ⟨some 90, Op.fieldAddr 82 (Operand.tmp 89) 3, _, _, _, none⟩ rfl (fun _ _ _ h => h) ?_ hHeld ?_
                  rotate_left
                  · (intro W _; go_simp <;> (try with_reducible rfl))
                  refine ready_call 14 ⟨none, Op.store 32 (Operand.tmp 90) (Operand.tmp 88), _, _, _, none⟩ (by kernel_rfl) rfl (by kernel_rfl) (fun KC hK => ?_)
                  have k1 := H5.out.1.1.cell 3 rfl
                  have k2 := H5.out.1.1.frz 3 (by simp)
                  have kz := H5.out.1.1.2
                  go_wp2_with fail
                  have HZ := (show Hid (Two lo (w5.drew.setCell ⟨g, 3, none⟩ (.slice (some ⟨ob, 0, none⟩) ord.length oc)) g ub (some ⟨b, off, none⟩) n cap own (ord ++ [k]) ord L5 (.slice (some ⟨ob, 0, none⟩) ord.length oc) (.slice l5 L5.length c5) (KL ++ KB) ∧ Below lo w0 (w5.drew.setCell ⟨g, 3, none⟩ (.slice (some ⟨ob, 0, none⟩) ord.length oc))) from ⟨H5.out.1.putO (grw_below (Below.refl _ _) _) HT.out (Or.inl rfl), H5.out.1.belowO H5.out.2 HC.out.log (grw_below (Below.refl _ _) _) _ _⟩)
                  clear k1 k2 kz
                  refine hK.out _ _ trivial (fun hHeld => ?_)
                  clear hK KC
                  refine wpAnyH_done (by kernel_rfl) ?_ _
                  refine NoPanic.normal ?_
                  go_wp2_with fail
                  go_meet
                  exact HZ.out
              case rest =>
                obtain ⟨h6, hb6⟩ := hcut
                have H6 := (show Hid (_ ∧ _) from ⟨h6, hb6⟩)
                clear h6 hb6 H5 HT
                have u0 := H6.out.1.1.cell 2 rfl
                have uz := H6.out.1.1.2
                have u1 := H6.out.1.2.1.cell k (usedC_at (ord ++ [k]) hlt)
                have u2 := H6.out.1.2.1.frz k (by rw [usedC_len]; exact hlt)
                have u3' := H6.out.1.2.1.2
                go_upto_region 16 with fail
                have H6 := (show Hid (_ ∧ _) from ⟨H6.out.1.setU (i := k) (b := false) (usd' := ord) hlt (usedC_unset n ord HY.out.2), H6.out.2.setCell (p := ⟨ub, k, none⟩) HC.out.lou (.bool false)⟩)
                clear u0 uz u1 u2 u3'
                obtain ⟨w7, hw7⟩ := Bx.name H6.out.1.1
                rw [← hw7] at H6 ⊢
                clear hw7
                have u0 := H6.out.1.1.cell 4 rfl
                have u1 := H6.out.1.1.frz 4 (by simp)
                have uz := H6.out.1.1.2
                have HE : Hid (TwoS lo w0 (w7.setCell ⟨g, 4, none⟩ (.slice la L.length lc)) g ub (some ⟨b, off, none⟩) n cap own V ord KB) :=
                  ⟨L, _, _, (H6.out.1.setC (L' := L) (lv' := (.slice la L.length lc)) (HL.out.2.1 w7 (fun p hp => (H6.out.1.2.2.2.2.2 p (List.mem_append.2 (Or.inl hp))).1)) HL.out.2.2.1 HL.out.2.2.2 (fun b' hb' e => by
                    obtain ⟨p, hp, hpb⟩ := HL.out.1 b' e
                    exact (H6.out.1.2.2.2.2.2 p (List.mem_append.2 (Or.inl hp))).2.2.2 (by rw [hpb]; exact hb'))).sub (fun p hp => List.mem_append.2 (Or.inr hp)), HS.out, H6.out.2.setCell (p := ⟨g, 4, none⟩) HC.out.log (.slice la L.length lc)⟩
                go_wp2
                go_roundw
                case rel => exact ⟨k + 1, by omega, by go_num, HN1.out, HE.out⟩
                case measure => simp [intOf]; omega
      · have hkn : k = n := by omega
        have hlt' : ¬ (k : Int) < (n : Int) := by omega
        have HZ : Hid (SePost own lo w0 g ub (some ⟨b, off, none⟩) n cap V (d + 1) ord KB (.returned (.bool false)) wr) := Or.inr ⟨srch_none (hkn ▸ HN.out), rfl, hone⟩
        clear hkn hone
        go_wp2
        go_ret
        exact HZ.out
end Go.Proofs.Ytkniokbioggkeaa
