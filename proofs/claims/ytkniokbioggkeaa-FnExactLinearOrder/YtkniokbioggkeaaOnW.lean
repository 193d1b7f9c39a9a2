/- The contract of (*oneCopy).waits. -/
import Derived.Test.YtkniokbioggkeaaOnL
namespace Go.Proofs.Ytkniokbioggkeaa
open Go.RowKit
set_option linter.unusedVariables false

/-- Which calls must be ahead, as a function's value. -/
def fvV : Bool → Value
  | false => .func (.func 35) #[] #[]
  | true => .func (.func 43) #[] #[]
set_option maxRecDepth 100000 in
set_option maxHeartbeats 4000000 in
theorem endsAheadOfOwn_any (a b : CallV) (w : World) :
    Calls Try.prog 43 #[.agg #[.int .i64 a.f0, .bool a.f1, .string a.f2, .string a.f3, .int .i64 a.f4, .int .i64 a.f5], .agg #[.int .i64 b.f0, .bool b.f1, .string b.f2, .string b.f3, .int .i64 b.f4, .int .i64 b.f5]] w fun r w' => r = .returned (.bool (ownB a b)) ∧ Below w.heap.size w w' := by
  have hA := (Bx.new w [.int .i64 a.f0, .bool a.f1, .string a.f2, .string a.f3, .int .i64 a.f4, .int .i64 a.f5] 28).alloc (.cells #[.int .i64 b.f0, .bool b.f1, .string b.f2, .string b.f3, .int .i64 b.f4, .int .i64 b.f5] 28)
  have hB := Bx.new (w.alloc (.cells #[.int .i64 a.f0, .bool a.f1, .string a.f2, .string a.f3, .int .i64 a.f4, .int .i64 a.f5] 28)) [.int .i64 b.f0, .bool b.f1, .string b.f2, .string b.f3, .int .i64 b.f4, .int .i64 b.f5] 28
  rw [World.size_alloc] at hB
  have H0 : Hid (Bx ((w.alloc (.cells #[.int .i64 a.f0, .bool a.f1, .string a.f2, .string a.f3, .int .i64 a.f4, .int .i64 a.f5] 28)).alloc (.cells #[.int .i64 b.f0, .bool b.f1, .string b.f2, .string b.f3, .int .i64 b.f4, .int .i64 b.f5] 28)) w.heap.size [.int .i64 a.f0, .bool a.f1, .string a.f2, .string a.f3, .int .i64 a.f4, .int .i64 a.f5] ∧ Bx ((w.alloc (.cells #[.int .i64 a.f0, .bool a.f1, .string a.f2, .string a.f3, .int .i64 a.f4, .int .i64 a.f5] 28)).alloc (.cells #[.int .i64 b.f0, .bool b.f1, .string b.f2, .string b.f3, .int .i64 b.f4, .int .i64 b.f5] 28)) (w.heap.size + 1) [.int .i64 b.f0, .bool b.f1, .string b.f2, .string b.f3, .int .i64 b.f4, .int .i64 b.f5] ∧ Below w.heap.size w ((w.alloc (.cells #[.int .i64 a.f0, .bool a.f1, .string a.f2, .string a.f3, .int .i64 a.f4, .int .i64 a.f5] 28)).alloc (.cells #[.int .i64 b.f0, .bool b.f1, .string b.f2, .string b.f3, .int .i64 b.f4, .int .i64 b.f5] 28))) := ⟨hA, hB, below_nx (Go.Joins.below_alloc1 _ _) (Go.Joins.below_alloc1 _ _)⟩
  have HC : Hid (ownB a b = ((a.f0 == b.f0) && endB a b)) := rfl
  clear hA hB
  cases e1 : (a.f0 == b.f0)
  · go_enter Try.func43, Try.ntmps43
    go_wp2
    go_ret
    exact ⟨ret_bool (by rw [HC.out, e1]; rfl), H0.out.2.2⟩
  · go_enter Try.func43, Try.ntmps43
    go_wp2_with fail
    refine (endsAhead_any a b _).mono ?_
    rintro r w2 ⟨rfl, hb⟩
    have HE : Hid (Below w.heap.size w w2) := below_nx H0.out.2.2 hb
    clear hb H0
    go_wp2
    go_ret
    exact ⟨ret_bool (by rw [HC.out, e1]; rfl), HE.out⟩
theorem mustB_own (a b : CallV) : mustB true a b = ownB a b := rfl
theorem mustB_end (a b : CallV) : mustB false a b = endB a b := rfl
theorem any_no {α : Type} {l : List α} {p : α → Bool} (h : ∀ j (hj : j < l.length), p l[j] = false) : l.any p = false := by
  rw [List.any_eq_false]
  intro x hx
  obtain ⟨j, hj, rfl⟩ := List.getElem_of_mem hx
  rw [h j hj]; exact Bool.false_ne_true
theorem any_yes {α : Type} {l : List α} {p : α → Bool} {j : Nat} (hj : j < l.length) (h : p l[j] = true) : l.any p = true := List.any_eq_true.2 ⟨l[j], List.getElem_mem hj, h⟩

set_option maxRecDepth 100000 in
set_option maxHeartbeats 8000000 in
theorem waits_false (w0 w : World) (g : Nat) (a : Option Addr) (n cap : Nat) (V : Nat → CallV) (ord : List Nat) (KB : List (Nat × List Value)) (i lb lc : Nat) (hC : OneC w0 g a n cap V) (hi : i < n) (h : OneS w0 w g a n cap V ord KB) (hl : Bx w lb (ordC (leftL n ord))) :
    Calls Try.prog 76 #[.pointer (some ⟨g, 0, none⟩), .int .i64 (i : Int), .slice (some ⟨lb, 0, none⟩) (leftL n ord).length lc, .func (.func 35) #[] #[]] w fun r w' => r = .returned (.bool (waitB V n false ord i)) ∧ Below w.heap.size w w' := by
  obtain ⟨L, ov, lv, h1, h2, h3⟩ := h
  have h7 := hC.n7
  have hi' : (i : Int) < (n : Int) := by omega
  have hll := left_le n ord
  have HW : Hid (waitB V n false ord i = (leftL n ord).any fun k => mustB false (V k) (V i)) := waitB_left
  have HM : Hid (∀ k (hk : k < (leftL n ord).length), (leftL n ord)[k] < n) := fun k hk => (mem_left.1 (List.getElem_mem hk)).1
  have HK : Hid (Bx w g [.slice a n cap, ov, lv] ∧ Bx w lb (ordC (leftL n ord)) ∧ Sl w a n 6 (callF V)) := ⟨h1.1, hl, hC.at h3⟩
  clear h1 h2 h3 hC hl
  generalize leftL n ord = lf at *
  go_enter Try.func76, Try.ntmps76
  go_wp2
  go_loopw [13] (fun z wr => ∃ k : Nat, k ≤ lf.length ∧ z = .int .i64 k ∧ (∀ j (hj : j < lf.length), j < k → mustB false (V lf[j]) (V i) = false) ∧ Below w.heap.size w wr) (fun z _ => lf.length - (intOf z).toNat)
  case atStart => exact ⟨0, Nat.zero_le _, rfl, fun j _ hj => absurd hj (by omega), Below.refl _ _⟩
  case round =>
    obtain ⟨k, hk, rfl, hno, hBr⟩ := hrel
    have HN : Hid ((∀ j (hj : j < lf.length), j < k → mustB false (V lf[j]) (V i) = false) ∧ Below w.heap.size w wr) := ⟨hno, hBr⟩
    clear hno hBr
    by_cases hlt : k < lf.length
    · have hlt' : (k : Int) < (lf.length : Int) := by omega
      obtain ⟨o, ho⟩ : ∃ o, o = lf[k] := ⟨_, rfl⟩
      have hon : o < n := by rw [ho]; exact HM.out k hlt
      have hon' : (o : Int) < (n : Int) := by omega
      have d0 := (HK.out.2.1.next HN.out.2).cell k (ordC_at hlt)
      rw [← ho] at d0
      have HO : Hid (o = lf[k]) := ho
      clear ho
      rcases HK.out.2.2.below HN.out.2 (Nat.le_refl _) with h | ⟨b, off, rfl, hbs, hE⟩
      · omega
      have H1 : Hid (Bx wr.drew g [.slice (some ⟨b, off, none⟩) n cap, ov, lv] ∧ Elems wr.drew b off n 6 (callF V) ∧ b < wr.drew.heap.size ∧ Below w.heap.size w wr.drew) := ⟨HK.out.1.next HN.out.2.drew, hE.below (Below.refl _ _).drew hbs, hbs, HN.out.2.drew⟩
      have dz := (HK.out.2.1.next HN.out.2).2
      clear hE
      go_upto_region 4 with fail
      clear d0
      refine wp_region_noPanic ?_
      refine wp_region_held_drew (S := fun W => Bx W g [.slice (some ⟨b, off, none⟩) n cap, ov, lv] ∧ Elems W b off n 6 (callF V) ∧ b < W.heap.size) (by kernel_rfl) ⟨H1.out.1, H1.out.2.1, H1.out.2.2.1⟩ (fun hHeld => ?_)
      refine take_v (v := ?_) 0 ⟨some 17, Op.move (Operand.tmp 3), _, _, _, none⟩ rfl (fun _ _ _ h => h) ?_ hHeld ?_
      rotate_left
      · (intro W _; go_simp <;> (try with_reducible rfl))
      refine take_v (v := ?_) 1 ⟨some 18, Op.move (Operand.tmp 0), _, _, _, none⟩ rfl (fun _ _ _ h => h) ?_ hHeld ?_
      rotate_left
      · (intro W _; go_simp <;> (try with_reducible rfl))
      refine take_v (v := ?_) 2 ⟨some 19, Op.nilCheck (Operand.tmp 18), _, _, _, none⟩ rfl (fun _ _ _ h => h) ?_ hHeld ?_
      rotate_left
      · (intro W _; go_simp <;> (try with_reducible rfl))
      refine take_v (v := ?_) 3 ⟨some 20, Op.fieldAddr 58 (Operand.tmp 19) 0, _, _, _, none⟩ rfl (fun _ _ _ h => h) ?_ hHeld ?_
      rotate_left
      · (intro W _; go_simp <;> (try with_reducible rfl))
      refine take_v (v := ?_) 4 ⟨some 21, Op.load 23 (Operand.tmp 20), _, _, _, none⟩ rfl (fun _ _ _ h => h) ?_ hHeld ?_
      rotate_left
      · (intro W hSW; (have s0 := hSW.1.cell 0 rfl; have sz := hSW.1.2; obtain ⟨c0, c1, c2, c3, c4, c5⟩ := call_cells hSW.2.1 hon; obtain ⟨e0, e1, e2, e3, e4, e5⟩ := call_cells hSW.2.1 hi; have sb := hSW.2.2); go_simp <;> (try with_reducible rfl))
      refine take_v (v := ?_) 5 ⟨some 22, Op.move (Operand.tmp 10), _, _, _, none⟩ rfl (fun _ _ _ h => h) ?_ hHeld ?_
      rotate_left
      · (intro W _; go_simp <;> (try with_reducible rfl))
      refine take_v (v := ?_) 6 ⟨some 23, Op.indexAddr 23 (Operand.tmp 21) (Operand.tmp 22), _, _, _, none⟩ rfl (fun _ _ _ h => h) ?_ hHeld ?_
      rotate_left
      · (intro W _; go_simp <;> (try with_reducible rfl))
      refine take_v (v := ?_) 7 ⟨some 24, Op.load 28 (Operand.tmp 23), _, _, _, none⟩ rfl (fun _ _ _ h => h) ?_ hHeld ?_
      rotate_left
      · (intro W hSW; (have s0 := hSW.1.cell 0 rfl; have sz := hSW.1.2; obtain ⟨c0, c1, c2, c3, c4, c5⟩ := call_cells hSW.2.1 hon; obtain ⟨e0, e1, e2, e3, e4, e5⟩ := call_cells hSW.2.1 hi; have sb := hSW.2.2); go_simp <;> (try with_reducible rfl))
      refine take_v (v := ?_) 8 ⟨some 25, Op.move (Operand.tmp 0), _, _, _, none⟩ rfl (fun _ _ _ h => h) ?_ hHeld ?_
      rotate_left
      · (intro W _; go_simp <;> (try with_reducible rfl))
      refine take_v (v := ?_) 9 ⟨some 26, Op.nilCheck (Operand.tmp 25), _, _, _, none⟩ rfl (fun _ _ _ h => h) ?_ hHeld ?_
      rotate_left
      · (intro W _; go_simp <;> (try with_reducible rfl))
      refine take_v (v := ?_) 10 ⟨some 27, Op.fieldAddr 58 (Operand.tmp 26) 0, _, _, _, none⟩ rfl (fun _ _ _ h => h) ?_ hHeld ?_
      rotate_left
      · (intro W _; go_simp <;> (try with_reducible rfl))
      refine take_v (v := ?_) 11 ⟨some 28, Op.load 23 (Operand.tmp 27), _, _, _, none⟩ rfl (fun _ _ _ h => h) ?_ hHeld ?_
      rotate_left
      · (intro W hSW; (have s0 := hSW.1.cell 0 rfl; have sz := hSW.1.2; obtain ⟨c0, c1, c2, c3, c4, c5⟩ := call_cells hSW.2.1 hon; obtain ⟨e0, e1, e2, e3, e4, e5⟩ := call_cells hSW.2.1 hi; have sb := hSW.2.2); go_simp <;> (try with_reducible rfl))
      refine take_v (v := ?_) 12 ⟨some 29, Op.move (Operand.tmp 1), _, _, _, none⟩ rfl (fun _ _ _ h => h) ?_ hHeld ?_
      rotate_left
      · (intro W _; go_simp <;> (try with_reducible rfl))
      refine take_v (v := ?_) 13 ⟨some 30, Op.indexAddr 23 (Operand.tmp 28) (Operand.tmp 29), _, _, _, none⟩ rfl (fun _ _ _ h => h) ?_ hHeld ?_
      rotate_left
      · (intro W _; go_simp <;> (try with_reducible rfl))
      refine take_v (v := ?_) 14 ⟨some 31, Op.load 28 (Operand.tmp 30), _, _, _, none⟩ rfl (fun _ _ _ h => h) ?_ hHeld ?_
      rotate_left
      · (intro W hSW; (have s0 := hSW.1.cell 0 rfl; have sz := hSW.1.2; obtain ⟨c0, c1, c2, c3, c4, c5⟩ := call_cells hSW.2.1 hon; obtain ⟨e0, e1, e2, e3, e4, e5⟩ := call_cells hSW.2.1 hi; have sb := hSW.2.2); go_simp <;> (try with_reducible rfl))
      refine ready_call 15 ⟨some 32, Op.call { callee := Callee.value (Operand.tmp 17), args := #[Operand.tmp 24, Operand.tmp 31], argTypes := #[28, 28] }, _, _, _, none⟩ (by kernel_rfl) rfl (by kernel_rfl) (fun KC hK => ?_)
      go_wp2_with fail
      refine (endsAhead_any (V o) (V i) _).mono ?_
      rintro r w2 ⟨rfl, hb⟩
      have H2 : Hid ((Bx w2 g [.slice (some ⟨b, off, none⟩) n cap, ov, lv] ∧ Elems w2 b off n 6 (callF V) ∧ b < w2.heap.size) ∧ Below w.heap.size w w2) := ⟨⟨H1.out.1.next hb, H1.out.2.1.below hb H1.out.2.2.1, Nat.lt_of_lt_of_le H1.out.2.2.1 hb.size⟩, below_nx H1.out.2.2.2 hb⟩
      clear hb
      refine hK.out _ _ H2.out.1 (fun hHeld => ?_)
      clear hK KC
      refine wpAnyH_done (by kernel_rfl) ?_ _
      refine NoPanic.normal ?_
      clear hHeld
      cases em : endB (V o) (V i)
      · go_wp2
        go_roundw
        case rel => exact ⟨k + 1, by omega, by go_num, (fun j hj hjk => by
          rcases Nat.lt_or_ge j k with q | q
          · exact HN.out.1 j hj q
          · have : j = k := by omega
            subst this; rw [← HO.out]; exact em), H2.out.2⟩
        case measure => simp [intOf]; omega
      · have HY : Hid (waitB V n false ord i = true) := by
          show _ = _
          rw [HW.out]; exact any_yes hlt (by rw [← HO.out]; exact em)
        go_wp2
        go_ret
        exact ⟨ret_bool HY.out.symm, H2.out.2⟩
    · have hkl : k = lf.length := by omega
      have hlt' : ¬ (k : Int) < (lf.length : Int) := by omega
      have HY : Hid (waitB V n false ord i = false) := by
        show _ = _
        rw [HW.out]; exact any_no fun j hj => HN.out.1 j hj (by omega)
      clear hkl
      go_wp2
      go_ret
      exact ⟨ret_bool HY.out.symm, HN.out.2⟩

set_option maxRecDepth 100000 in
set_option maxHeartbeats 8000000 in
theorem waits_true (w0 w : World) (g : Nat) (a : Option Addr) (n cap : Nat) (V : Nat → CallV) (ord : List Nat) (KB : List (Nat × List Value)) (i lb lc : Nat) (hC : OneC w0 g a n cap V) (hi : i < n) (h : OneS w0 w g a n cap V ord KB) (hl : Bx w lb (ordC (leftL n ord))) :
    Calls Try.prog 76 #[.pointer (some ⟨g, 0, none⟩), .int .i64 (i : Int), .slice (some ⟨lb, 0, none⟩) (leftL n ord).length lc, .func (.func 43) #[] #[]] w fun r w' => r = .returned (.bool (waitB V n true ord i)) ∧ Below w.heap.size w w' := by
  obtain ⟨L, ov, lv, h1, h2, h3⟩ := h
  have h7 := hC.n7
  have hi' : (i : Int) < (n : Int) := by omega
  have hll := left_le n ord
  have HW : Hid (waitB V n true ord i = (leftL n ord).any fun k => mustB true (V k) (V i)) := waitB_left
  have HM : Hid (∀ k (hk : k < (leftL n ord).length), (leftL n ord)[k] < n) := fun k hk => (mem_left.1 (List.getElem_mem hk)).1
  have HK : Hid (Bx w g [.slice a n cap, ov, lv] ∧ Bx w lb (ordC (leftL n ord)) ∧ Sl w a n 6 (callF V)) := ⟨h1.1, hl, hC.at h3⟩
  clear h1 h2 h3 hC hl
  generalize leftL n ord = lf at *
  go_enter Try.func76, Try.ntmps76
  go_wp2
  go_loopw [13] (fun z wr => ∃ k : Nat, k ≤ lf.length ∧ z = .int .i64 k ∧ (∀ j (hj : j < lf.length), j < k → mustB true (V lf[j]) (V i) = false) ∧ Below w.heap.size w wr) (fun z _ => lf.length - (intOf z).toNat)
  case atStart => exact ⟨0, Nat.zero_le _, rfl, fun j _ hj => absurd hj (by omega), Below.refl _ _⟩
  case round =>
    obtain ⟨k, hk, rfl, hno, hBr⟩ := hrel
    have HN : Hid ((∀ j (hj : j < lf.length), j < k → mustB true (V lf[j]) (V i) = false) ∧ Below w.heap.size w wr) := ⟨hno, hBr⟩
    clear hno hBr
    by_cases hlt : k < lf.length
    · have hlt' : (k : Int) < (lf.length : Int) := by omega
      obtain ⟨o, ho⟩ : ∃ o, o = lf[k] := ⟨_, rfl⟩
      have hon : o < n := by rw [ho]; exact HM.out k hlt
      have hon' : (o : Int) < (n : Int) := by omega
      have d0 := (HK.out.2.1.next HN.out.2).cell k (ordC_at hlt)
      rw [← ho] at d0
      have HO : Hid (o = lf[k]) := ho
      clear ho
      rcases HK.out.2.2.below HN.out.2 (Nat.le_refl _) with h | ⟨b, off, rfl, hbs, hE⟩
      · omega
      have H1 : Hid (Bx wr.drew g [.slice (some ⟨b, off, none⟩) n cap, ov, lv] ∧ Elems wr.drew b off n 6 (callF V) ∧ b < wr.drew.heap.size ∧ Below w.heap.size w wr.drew) := ⟨HK.out.1.next HN.out.2.drew, hE.below (Below.refl _ _).drew hbs, hbs, HN.out.2.drew⟩
      have dz := (HK.out.2.1.next HN.out.2).2
      clear hE
      go_upto_region 4 with fail
      clear d0
      refine wp_region_noPanic ?_
      refine wp_region_held_drew (S := fun W => Bx W g [.slice (some ⟨b, off, none⟩) n cap, ov, lv] ∧ Elems W b off n 6 (callF V) ∧ b < W.heap.size) (by kernel_rfl) ⟨H1.out.1, H1.out.2.1, H1.out.2.2.1⟩ (fun hHeld => ?_)
      refine take_v (v := ?_) 0 ⟨some 17, Op.move (Operand.tmp 3), _, _, _, none⟩ rfl (fun _ _ _ h => h) ?_ hHeld ?_
      rotate_left
      · (intro W _; go_simp <;> (try with_reducible rfl))
      refine take_v (v := ?_) 1 ⟨some 18, Op.move (Operand.tmp 0), _, _, _, none⟩ rfl (fun _ _ _ h => h) ?_ hHeld ?_
      rotate_left
      · (intro W _; go_simp <;> (try with_reducible rfl))
      refine take_v (v := ?_) 2 ⟨some 19, Op.nilCheck (Operand.tmp 18), _, _, _, none⟩ rfl (fun _ _ _ h => h) ?_ hHeld ?_
      rotate_left
      · (intro W _; go_simp <;> (try with_reducible rfl))
      refine take_v (v := ?_) 3 ⟨some 20, Op.fieldAddr 58 (Operand.tmp 19) 0, _, _, _, none⟩ rfl (fun _ _ _ h => h) ?_ hHeld ?_
      rotate_left
      · (intro W _; go_simp <;> (try with_reducible rfl))
      refine take_v (v := ?_) 4 ⟨some 21, Op.load 23 (Operand.tmp 20), _, _, _, none⟩ rfl (fun _ _ _ h => h) ?_ hHeld ?_
      rotate_left
      · (intro W hSW; (have s0 := hSW.1.cell 0 rfl; have sz := hSW.1.2; obtain ⟨c0, c1, c2, c3, c4, c5⟩ := call_cells hSW.2.1 hon; obtain ⟨e0, e1, e2, e3, e4, e5⟩ := call_cells hSW.2.1 hi; have sb := hSW.2.2); go_simp <;> (try with_reducible rfl))
      refine take_v (v := ?_) 5 ⟨some 22, Op.move (Operand.tmp 10), _, _, _, none⟩ rfl (fun _ _ _ h => h) ?_ hHeld ?_
      rotate_left
      · (intro W _; go_simp <;> (try with_reducible rfl))
      refine take_v (v := ?_) 6 ⟨some 23, Op.indexAddr 23 (Operand.tmp 21) (Operand.tmp 22), _, _, _, none⟩ rfl (fun _ _ _ h => h) ?_ hHeld ?_
      rotate_left
      · (intro W _; go_simp <;> (try with_reducible rfl))
      refine take_v (v := ?_) 7 ⟨some 24, Op.load 28 (Operand.tmp 23), _, _, _, none⟩ rfl (fun _ _ _ h => h) ?_ hHeld ?_
      rotate_left
      · (intro W hSW; (have s0 := hSW.1.cell 0 rfl; have sz := hSW.1.2; obtain ⟨c0, c1, c2, c3, c4, c5⟩ := call_cells hSW.2.1 hon; obtain ⟨e0, e1, e2, e3, e4, e5⟩ := call_cells hSW.2.1 hi; have sb := hSW.2.2); go_simp <;> (try with_reducible rfl))
      refine take_v (v := ?_) 8 ⟨some 25, Op.move (Operand.tmp 0), _, _, _, none⟩ rfl (fun _ _ _ h => h) ?_ hHeld ?_
      rotate_left
      · (intro W _; go_simp <;> (try with_reducible rfl))
      refine take_v (v := ?_) 9 ⟨some 26, Op.nilCheck (Operand.tmp 25), _, _, _, none⟩ rfl (fun _ _ _ h => h) ?_ hHeld ?_
      rotate_left
      · (intro W _; go_simp <;> (try with_reducible rfl))
      refine take_v (v := ?_) 10 ⟨some 27, Op.fieldAddr 58 (Operand.tmp 26) 0, _, _, _, none⟩ rfl (fun _ _ _ h => h) ?_ hHeld ?_
      rotate_left
      · (intro W _; go_simp <;> (try with_reducible rfl))
      refine take_v (v := ?_) 11 ⟨some 28, Op.load 23 (Operand.tmp 27), _, _, _, none⟩ rfl (fun _ _ _ h => h) ?_ hHeld ?_
      rotate_left
      · (intro W hSW; (have s0 := hSW.1.cell 0 rfl; have sz := hSW.1.2; obtain ⟨c0, c1, c2, c3, c4, c5⟩ := call_cells hSW.2.1 hon; obtain ⟨e0, e1, e2, e3, e4, e5⟩ := call_cells hSW.2.1 hi; have sb := hSW.2.2); go_simp <;> (try with_reducible rfl))
      refine take_v (v := ?_) 12 ⟨some 29, Op.move (Operand.tmp 1), _, _, _, none⟩ rfl (fun _ _ _ h => h) ?_ hHeld ?_
      rotate_left
      · (intro W _; go_simp <;> (try with_reducible rfl))
      refine take_v (v := ?_) 13 ⟨some 30, Op.indexAddr 23 (Operand.tmp 28) (Operand.tmp 29), _, _, _, none⟩ rfl (fun _ _ _ h => h) ?_ hHeld ?_
      rotate_left
      · (intro W _; go_simp <;> (try with_reducible rfl))
      refine take_v (v := ?_) 14 ⟨some 31, Op.load 28 (Operand.tmp 30), _, _, _, none⟩ rfl (fun _ _ _ h => h) ?_ hHeld ?_
      rotate_left
      · (intro W hSW; (have s0 := hSW.1.cell 0 rfl; have sz := hSW.1.2; obtain ⟨c0, c1, c2, c3, c4, c5⟩ := call_cells hSW.2.1 hon; obtain ⟨e0, e1, e2, e3, e4, e5⟩ := call_cells hSW.2.1 hi; have sb := hSW.2.2); go_simp <;> (try with_reducible rfl))
      refine ready_call 15 ⟨some 32, Op.call { callee := Callee.value (Operand.tmp 17), args := #[Operand.tmp 24, Operand.tmp 31], argTypes := #[28, 28] }, _, _, _, none⟩ (by kernel_rfl) rfl (by kernel_rfl) (fun KC hK => ?_)
      go_wp2_with fail
      refine (endsAheadOfOwn_any (V o) (V i) _).mono ?_
      rintro r w2 ⟨rfl, hb⟩
      have H2 : Hid ((Bx w2 g [.slice (some ⟨b, off, none⟩) n cap, ov, lv] ∧ Elems w2 b off n 6 (callF V) ∧ b < w2.heap.size) ∧ Below w.heap.size w w2) := ⟨⟨H1.out.1.next hb, H1.out.2.1.below hb H1.out.2.2.1, Nat.lt_of_lt_of_le H1.out.2.2.1 hb.size⟩, below_nx H1.out.2.2.2 hb⟩
      clear hb
      refine hK.out _ _ H2.out.1 (fun hHeld => ?_)
      clear hK KC
      refine wpAnyH_done (by kernel_rfl) ?_ _
      refine NoPanic.normal ?_
      clear hHeld
      cases em : ownB (V o) (V i)
      · go_wp2
        go_roundw
        case rel => exact ⟨k + 1, by omega, by go_num, (fun j hj hjk => by
          rcases Nat.lt_or_ge j k with q | q
          · exact HN.out.1 j hj q
          · have : j = k := by omega
            subst this; rw [← HO.out]; exact em), H2.out.2⟩
        case measure => simp [intOf]; omega
      · have HY : Hid (waitB V n true ord i = true) := by
          show _ = _
          rw [HW.out]; exact any_yes hlt (by rw [← HO.out]; exact em)
        go_wp2
        go_ret
        exact ⟨ret_bool HY.out.symm, H2.out.2⟩
    · have hkl : k = lf.length := by omega
      have hlt' : ¬ (k : Int) < (lf.length : Int) := by omega
      have HY : Hid (waitB V n true ord i = false) := by
        show _ = _
        rw [HW.out]; exact any_no fun j hj => HN.out.1 j hj (by omega)
      clear hkl
      go_wp2
      go_ret
      exact ⟨ret_bool HY.out.symm, HN.out.2⟩

theorem waits_any (own : Bool) (w0 w : World) (g : Nat) (a : Option Addr) (n cap : Nat) (V : Nat → CallV) (ord : List Nat) (KB : List (Nat × List Value)) (i lb lc : Nat) (hC : OneC w0 g a n cap V) (hi : i < n) (h : OneS w0 w g a n cap V ord KB) (hl : Bx w lb (ordC (leftL n ord))) :
    Calls Try.prog 76 #[.pointer (some ⟨g, 0, none⟩), .int .i64 (i : Int), .slice (some ⟨lb, 0, none⟩) (leftL n ord).length lc, fvV own] w fun r w' => r = .returned (.bool (waitB V n own ord i)) ∧ Below w.heap.size w w' := by
  cases own
  · exact waits_false w0 w g a n cap V ord KB i lb lc hC hi h hl
  · exact waits_true w0 w g a n cap V ord KB i lb lc hC hi h hl
end Go.Proofs.Ytkniokbioggkeaa
