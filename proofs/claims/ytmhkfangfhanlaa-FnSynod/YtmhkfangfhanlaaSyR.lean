/- Synods: a turn is taken. -/
import Derived.Test.YtmhkfangfhanlaaSyZ
namespace Go.Proofs.Ytmhkfangfhanlaa
open Go.RowKit
set_option linter.unusedVariables false
set_option linter.unusedSimpArgs false

def tkP (bal p : Int) (fx : Bool) : Bool := decide (p < bal) && !fx
def tkN (bal p : Int) (fx : Bool) : Int := if tkP bal p fx then bal else p
noncomputable def tkL (bal node p b : Int) (v : ByteArray) (ps : List (Sh.T shPromise)) (fx : Bool) : List (Sh.T shPromise) := if tkP bal p fx then putP ps (mkPm node b v) else ps
def tkF (n : Int) (fx : Bool) (ps : List (Sh.T shPromise)) : Bool := !fx && decide (n < 2 * (ps.length : Int))
noncomputable def tkV (bal node p : Int) (fx : Bool) (vt : List (Sh.T .int)) : Bool := fx && (decide (p ≤ bal) && !(tf (node ∈ vt)))

theorem index_mv0 (w : World) : Sem.run Try.prog (Instr.index 151 (.agg #[.bool false, .func (.func 105) #[] #[], .func (.func 106) #[] #[], .bool false, .func (.func 107) #[] #[], .func (.func 108) #[] #[], .bool true, .func (.func 109) #[] #[], .func (.func 110) #[] #[]]) (.int .i64 0)) w = .ok (.agg #[.bool false, .func (.func 105) #[] #[], .func (.func 106) #[] #[]]) w := by kernel_rfl
theorem index_mv1 (w : World) : Sem.run Try.prog (Instr.index 151 (.agg #[.bool false, .func (.func 105) #[] #[], .func (.func 106) #[] #[], .bool false, .func (.func 107) #[] #[], .func (.func 108) #[] #[], .bool true, .func (.func 109) #[] #[], .func (.func 110) #[] #[]]) (.int .i64 1)) w = .ok (.agg #[.bool false, .func (.func 107) #[] #[], .func (.func 108) #[] #[]]) w := by kernel_rfl
theorem index_mv2 (w : World) : Sem.run Try.prog (Instr.index 151 (.agg #[.bool false, .func (.func 105) #[] #[], .func (.func 106) #[] #[], .bool false, .func (.func 107) #[] #[], .func (.func 108) #[] #[], .bool true, .func (.func 109) #[] #[], .func (.func 110) #[] #[]]) (.int .i64 2)) w = .ok (.agg #[.bool true, .func (.func 109) #[] #[], .func (.func 110) #[] #[]]) w := by kernel_rfl

noncomputable def tkD (bal node n p b : Int) (v : ByteArray) (ps : List (Sh.T shPromise)) (fx : Bool) : Bool := tkP bal p fx || tkF n fx (tkL bal node p b v ps fx)
def TkF (W0 w' : World) (lo ga oa gp op : Nat) (S0 : Nat → Prop) (bal node n p b : Int) (v own : ByteArray) (ps : List (Sh.T shPromise)) (fx : Bool) (val : ByteArray) (vt : List (Sh.T .int)) : Prop := ∃ v5 v6 B5 B6, Loc W0 lo ga oa gp op S0 w' v5 v6 B5 B6 (tkN bal p fx) b v own (tkL bal node p b v ps fx) (fx || tkF n fx (tkL bal node p b v ps fx)) (if tkF n fx (tkL bal node p b v ps fx) then fixV own (tkL bal node p b v ps fx) else val) vt
def TkT (W0 w' : World) (lo ga oa gp op : Nat) (S0 : Nat → Prop) (bal node p b : Int) (v own : ByteArray) (ps : List (Sh.T shPromise)) (fx : Bool) (val : ByteArray) (vt : List (Sh.T .int)) : Prop := ∃ v5 v6 B5 B6, Loc W0 lo ga oa gp op S0 w' v5 v6 B5 B6 (if tkV bal node p fx vt then bal else p) (if tkV bal node p fx vt then bal else b) (if tkV bal node p fx vt then val else v) own ps fx val (if tkV bal node p fx vt then insI vt node else vt)
theorem putP_len (l : List (Sh.T shPromise)) (x : Sh.T shPromise) : (putP l x).length ≤ l.length + 1 := by
  unfold putP; split
  · rw [List.length_set]; omega
  · rw [insP_len _ _ _ (lsP_le l _)]; omega
theorem tkL_len {bal node p b : Int} {v : ByteArray} {ps : List (Sh.T shPromise)} {fx : Bool} (h : ps.length ≤ 999) : (tkL bal node p b v ps fx).length ≤ 1000 := by
  unfold tkL; split
  · have := putP_len ps (mkPm node b v); omega
  · omega

set_option maxRecDepth 100000 in
set_option maxHeartbeats 4000000 in
theorem takeF_n (bal node n : Int) (W0 W : World) (lo ga oa gp op : Nat) (S0 : Nat → Prop) (v1 v2 : Value) (B1 B2 : Nat → Prop) (p b : Int) (v own : ByteArray) (ps : List (Sh.T shPromise)) (fx : Bool) (val : ByteArray) (vt : List (Sh.T .int)) (hvs : v.size ≤ 1073741824) (hpl : ps.length ≤ 999) (hri : ps.Pairwise (fun x y => pnd x < pnd y)) (hz : szD (.list shPromise) (tkL bal node p b v ps fx) ≤ 1073741824) (hfs : (fixV own (tkL bal node p b v ps fx)).size ≤ 1073741824) (h : Loc W0 lo ga oa gp op S0 W v1 v2 B1 B2 p b v own ps fx val vt) :
    Calls Try.prog 76 #[.agg (TV bal node n ga oa gp op), .bool false] W fun r w' => r = .returned (.bool (tkD bal node n p b v ps fx)) ∧ TkF W0 w' lo ga oa gp op S0 bal node n p b v own ps fx val vt := by
  obtain ⟨w1, hw1⟩ : ∃ x, x = (W.alloc (.cells (TV bal node n ga oa gp op) 111)).alloc (.cells #[.bool false, .func (.func 105) #[] #[], .func (.func 106) #[] #[], .bool false, .func (.func 107) #[] #[], .func (.func 108) #[] #[], .bool true, .func (.func 109) #[] #[], .func (.func 110) #[] #[]] 151) := ⟨_, rfl⟩
  have HS : Hid (Loc W0 lo ga oa gp op S0 w1 v1 v2 B1 B2 p b v own ps fx val vt ∧ Bx w1 W.heap.size [.int .i64 bal, .int .i64 node, .int .i64 n, .pointer (some ⟨ga, oa, none⟩), .pointer (some ⟨gp, op, none⟩)] ∧ ∀ j, B1 j ∨ B2 j → j ≠ W.heap.size) := by
    have hb1 : Below W.heap.size W w1 := hw1 ▸ (Go.Joins.below_alloc1 W _).alloc (by simp) _
    exact ⟨h.next hb1, hw1 ▸ (Bx.new W [_, _, _, _, _] _).alloc _, fun k hk => Nat.ne_of_lt (h.2.2.2.2.2.1 k hk).2.2.1⟩
  have HZ : Hid (v.size ≤ 1073741824 ∧ ps.length ≤ 999 ∧ ps.Pairwise (fun x y => pnd x < pnd y) ∧ szD (.list shPromise) (tkL bal node p b v ps fx) ≤ 1073741824 ∧ (fixV own (tkL bal node p b v ps fx)).size ≤ 1073741824) := ⟨hvs, hpl, hri, hz, hfs⟩
  have haw : W.heap.size ≠ ga := by have := h.1.lt; omega
  have hgw : W.heap.size ≠ gp := by have := h.2.1.lt; omega
  clear h hvs hpl hri hz hfs
  go_enter Try.func76, Try.ntmps76
  go_wp2_with fail
  rw [← hw1]
  clear hw1
  go_loopw [14, 6] (fun i d wr => ∃ (k : Nat) (dd : Bool) (v5 v6 : Value) (B5 B6 : Nat → Prop), k ≤ 3 ∧ i = .int .i64 k ∧ d = .bool dd ∧ Bx wr W.heap.size [.int .i64 bal, .int .i64 node, .int .i64 n, .pointer (some ⟨ga, oa, none⟩), .pointer (some ⟨gp, op, none⟩)] ∧ (∀ j, B5 j ∨ B6 j → j ≠ W.heap.size) ∧ ((k = 0 ∧ dd = false ∧ Loc W0 lo ga oa gp op S0 wr v5 v6 B5 B6 p b v own ps fx val vt) ∨ (k = 1 ∧ dd = tkP bal p fx ∧ Loc W0 lo ga oa gp op S0 wr v5 v6 B5 B6 (tkN bal p fx) b v own (tkL bal node p b v ps fx) fx val vt) ∨ (2 ≤ k ∧ dd = (tkP bal p fx || tkF n fx (tkL bal node p b v ps fx)) ∧ Loc W0 lo ga oa gp op S0 wr v5 v6 B5 B6 (tkN bal p fx) b v own (tkL bal node p b v ps fx) (fx || tkF n fx (tkL bal node p b v ps fx)) (if tkF n fx (tkL bal node p b v ps fx) then fixV own (tkL bal node p b v ps fx) else val) vt))) (fun i _ _ => 3 - (intOf i).toNat)
  case atStart => exact ⟨0, false, v1, v2, B1, B2, by omega, rfl, rfl, HS.out.2.1, HS.out.2.2, Or.inl ⟨rfl, rfl, HS.out.1⟩⟩
  case round =>
    obtain ⟨k, dd, v5, v6, B5, B6, hk, rfl, rfl, hX, hJ, hcs⟩ := hrel
    clear HS
    by_cases hlt : k < 3
    · rcases hcs with ⟨rfl, rfl, hL⟩ | ⟨rfl, rfl, hL⟩ | ⟨hk2, rfl, hL⟩
      · skip
        have HQ : Hid (Loc W0 lo ga oa gp op S0 wr v5 v6 B5 B6 p b v own ps fx val vt ∧ Bx wr W.heap.size [.int .i64 bal, .int .i64 node, .int .i64 n, .pointer (some ⟨ga, oa, none⟩), .pointer (some ⟨gp, op, none⟩)] ∧ (∀ j, B5 j ∨ B6 j → j ≠ W.heap.size)) := ⟨hL, hX, hJ⟩
        clear hL hX hJ
        have s0 := HQ.out.2.1.cell 0 rfl
        have s1 := HQ.out.2.1.cell 1 rfl
        have s2 := HQ.out.2.1.cell 2 rfl
        have s3 := HQ.out.2.1.cell 3 rfl
        have s4 := HQ.out.2.1.cell 4 rfl
        have sz := HQ.out.2.1.2
        obtain ⟨w1, hw1⟩ : ∃ x, x = wr.alloc (.cells #[.bool false, .func (.func 105) #[] #[], .func (.func 106) #[] #[]] 150) := ⟨_, rfl⟩
        have H1 : Hid (Loc W0 lo ga oa gp op S0 w1 v5 v6 B5 B6 p b v own ps fx val vt ∧ Bx w1 W.heap.size [.int .i64 bal, .int .i64 node, .int .i64 n, .pointer (some ⟨ga, oa, none⟩), .pointer (some ⟨gp, op, none⟩)] ∧ (∀ j, B5 j ∨ B6 j → j ≠ W.heap.size) ∧ Bx w1 wr.heap.size [.bool false, .func (.func 105) #[] #[], .func (.func 106) #[] #[]]) := ⟨HQ.out.1.next (hw1 ▸ Go.Joins.below_alloc1 _ _), HQ.out.2.1.next (hw1 ▸ Go.Joins.below_alloc1 _ _), HQ.out.2.2, hw1 ▸ Bx.new wr [_, _, _] _⟩
        have hmw : W.heap.size < wr.heap.size := sz
        have hix := index_mv0
        go_wp2_with fail
        clear hix
        rw [← hw1]
        refine (mayPromise_n _ _ _ _ _ _ _ _ _ _ _ _ _ _ _ _ _ _ _ _ _ _ _ H1.out.1).mono ?_
        rintro r w2 ⟨rfl, hb⟩
        have H2 : Hid (Loc W0 lo ga oa gp op S0 w2 v5 v6 B5 B6 p b v own ps fx val vt ∧ Bx w2 W.heap.size [.int .i64 bal, .int .i64 node, .int .i64 n, .pointer (some ⟨ga, oa, none⟩), .pointer (some ⟨gp, op, none⟩)] ∧ (∀ j, B5 j ∨ B6 j → j ≠ W.heap.size) ∧ Bx w2 wr.heap.size [.bool false, .func (.func 105) #[] #[], .func (.func 106) #[] #[]]) := ⟨H1.out.1.next hb, H1.out.2.1.next hb, H1.out.2.2.1, H1.out.2.2.2.next hb⟩
        clear hb s0 s1 s2 s3 s4 sz HQ H1 hw1
        have s0 := H2.out.2.1.cell 0 rfl
        have s1 := H2.out.2.1.cell 1 rfl
        have s2 := H2.out.2.1.cell 2 rfl
        have s3 := H2.out.2.1.cell 3 rfl
        have s4 := H2.out.2.1.cell 4 rfl
        have sz := H2.out.2.1.2
        have m0 := H2.out.2.2.2.cell 0 rfl
        have m1 := H2.out.2.2.2.cell 1 rfl
        have m2 := H2.out.2.2.2.cell 2 rfl
        have mz := H2.out.2.2.2.2
        obtain ⟨cb, hcb⟩ : ∃ c, c = tkP bal p fx := ⟨_, rfl⟩
        have HCB : Hid (cb = tkP bal p fx) := hcb
        rw [show (decide (p < bal) && !fx) = cb from hcb.symm]
        clear hcb
        cases cb
        · go_wp2_with fail
          go_roundw
          case rel =>
            exact ⟨1, _, v5, v6, B5, B6, by omega, by go_num, rfl, H2.out.2.1, H2.out.2.2.1, Or.inr (Or.inl ⟨rfl, HCB.out, by have e := HCB.out; unfold tkN tkL; rw [← e]; exact H2.out.1⟩)⟩
          case measure => simp [intOf]
        · go_wp2_with fail
          refine (promise_n _ _ _ w2 _ _ _ _ _ _ _ v5 v6 B5 B6 _ _ _ _ _ _ _ _ HZ.out.1 (by have := HZ.out.2.1; omega) HZ.out.2.2.1 H2.out.1.rebase).mono ?_
          rintro r w3 ⟨rfl, hL3⟩
          obtain ⟨v7, B7, hL3⟩ := hL3
          have HL3 := Hid.intro (And.intro (H2.out.1.join hL3) (hL3.away H2.out.2.1 haw hgw H2.out.2.2.1))
          clear hL3 s0 s1 s2 s3 s4 sz m0 m1 m2 mz
          go_wp2_with fail
          go_roundw
          case rel =>
            exact ⟨1, true, v7, v6, B7, B6, by omega, by go_num, rfl, HL3.out.2.1, HL3.out.2.2, Or.inr (Or.inl ⟨rfl, HCB.out, by have e := HCB.out; unfold tkN tkL; rw [← e]; exact HL3.out.1⟩)⟩
          case measure => simp [intOf]

      · skip
        have HQ : Hid (Loc W0 lo ga oa gp op S0 wr v5 v6 B5 B6 (tkN bal p fx) b v own (tkL bal node p b v ps fx) fx val vt ∧ Bx wr W.heap.size [.int .i64 bal, .int .i64 node, .int .i64 n, .pointer (some ⟨ga, oa, none⟩), .pointer (some ⟨gp, op, none⟩)] ∧ (∀ j, B5 j ∨ B6 j → j ≠ W.heap.size)) := ⟨hL, hX, hJ⟩
        clear hL hX hJ
        have s0 := HQ.out.2.1.cell 0 rfl
        have s1 := HQ.out.2.1.cell 1 rfl
        have s2 := HQ.out.2.1.cell 2 rfl
        have s3 := HQ.out.2.1.cell 3 rfl
        have s4 := HQ.out.2.1.cell 4 rfl
        have sz := HQ.out.2.1.2
        obtain ⟨w1, hw1⟩ : ∃ x, x = wr.alloc (.cells #[.bool false, .func (.func 107) #[] #[], .func (.func 108) #[] #[]] 150) := ⟨_, rfl⟩
        have H1 : Hid (Loc W0 lo ga oa gp op S0 w1 v5 v6 B5 B6 (tkN bal p fx) b v own (tkL bal node p b v ps fx) fx val vt ∧ Bx w1 W.heap.size [.int .i64 bal, .int .i64 node, .int .i64 n, .pointer (some ⟨ga, oa, none⟩), .pointer (some ⟨gp, op, none⟩)] ∧ (∀ j, B5 j ∨ B6 j → j ≠ W.heap.size) ∧ Bx w1 wr.heap.size [.bool false, .func (.func 107) #[] #[], .func (.func 108) #[] #[]]) := ⟨HQ.out.1.next (hw1 ▸ Go.Joins.below_alloc1 _ _), HQ.out.2.1.next (hw1 ▸ Go.Joins.below_alloc1 _ _), HQ.out.2.2, hw1 ▸ Bx.new wr [_, _, _] _⟩
        have hmw : W.heap.size < wr.heap.size := sz
        have hix := index_mv1
        go_wp2_with fail
        clear hix
        rw [← hw1]
        refine (mayFix_n _ _ _ _ _ _ _ _ _ _ _ _ _ _ _ _ _ _ _ _ _ _ _ (tkL_len HZ.out.2.1) H1.out.1).mono ?_
        rintro r w2 ⟨rfl, hb⟩
        have H2 : Hid (Loc W0 lo ga oa gp op S0 w2 v5 v6 B5 B6 (tkN bal p fx) b v own (tkL bal node p b v ps fx) fx val vt ∧ Bx w2 W.heap.size [.int .i64 bal, .int .i64 node, .int .i64 n, .pointer (some ⟨ga, oa, none⟩), .pointer (some ⟨gp, op, none⟩)] ∧ (∀ j, B5 j ∨ B6 j → j ≠ W.heap.size) ∧ Bx w2 wr.heap.size [.bool false, .func (.func 107) #[] #[], .func (.func 108) #[] #[]]) := ⟨H1.out.1.next hb, H1.out.2.1.next hb, H1.out.2.2.1, H1.out.2.2.2.next hb⟩
        clear hb s0 s1 s2 s3 s4 sz HQ H1 hw1
        have s0 := H2.out.2.1.cell 0 rfl
        have s1 := H2.out.2.1.cell 1 rfl
        have s2 := H2.out.2.1.cell 2 rfl
        have s3 := H2.out.2.1.cell 3 rfl
        have s4 := H2.out.2.1.cell 4 rfl
        have sz := H2.out.2.1.2
        have m0 := H2.out.2.2.2.cell 0 rfl
        have m1 := H2.out.2.2.2.cell 1 rfl
        have m2 := H2.out.2.2.2.cell 2 rfl
        have mz := H2.out.2.2.2.2
        obtain ⟨cb, hcb⟩ : ∃ c, c = tkF n fx (tkL bal node p b v ps fx) := ⟨_, rfl⟩
        have HCB : Hid (cb = tkF n fx (tkL bal node p b v ps fx)) := hcb
        rw [show (!fx && decide (n < 2 * ((tkL bal node p b v ps fx).length : Int))) = cb from hcb.symm]
        clear hcb
        cases cb
        · go_wp2_with fail
          go_roundw
          case rel =>
            exact ⟨2, _, v5, v6, B5, B6, by omega, by go_num, rfl, H2.out.2.1, H2.out.2.2.1, Or.inr (Or.inr ⟨by omega, by rw [← HCB.out, Bool.or_false], by rw [← HCB.out, Bool.or_false]; exact H2.out.1⟩)⟩
          case measure => simp [intOf]
        · go_wp2_with fail
          refine (fix_n _ _ _ w2 _ _ _ _ _ _ _ v5 v6 B5 B6 _ _ _ _ _ _ _ _ HZ.out.2.2.2.1 HZ.out.2.2.2.2 H2.out.1.rebase).mono ?_
          rintro r w3 ⟨rfl, hL3⟩
          skip
          have HL3 := Hid.intro (And.intro (H2.out.1.join hL3) (hL3.away H2.out.2.1 haw hgw H2.out.2.2.1))
          clear hL3 s0 s1 s2 s3 s4 sz m0 m1 m2 mz
          go_wp2_with fail
          go_roundw
          case rel =>
            exact ⟨2, true, v5, v6, B5, B6, by omega, by go_num, rfl, HL3.out.2.1, HL3.out.2.2, Or.inr (Or.inr ⟨by omega, by rw [← HCB.out, Bool.or_true], by rw [← HCB.out, Bool.or_true]; exact HL3.out.1⟩)⟩
          case measure => simp [intOf]

      · obtain rfl : k = 2 := by omega
        have HQ : Hid (Loc W0 lo ga oa gp op S0 wr v5 v6 B5 B6 (tkN bal p fx) b v own (tkL bal node p b v ps fx) (fx || tkF n fx (tkL bal node p b v ps fx)) (if tkF n fx (tkL bal node p b v ps fx) then fixV own (tkL bal node p b v ps fx) else val) vt ∧ Bx wr W.heap.size [.int .i64 bal, .int .i64 node, .int .i64 n, .pointer (some ⟨ga, oa, none⟩), .pointer (some ⟨gp, op, none⟩)] ∧ (∀ j, B5 j ∨ B6 j → j ≠ W.heap.size)) := ⟨hL, hX, hJ⟩
        clear hL hX hJ
        have hix := index_mv2
        generalize hdd : (tkP bal p fx || tkF n fx (tkL bal node p b v ps fx)) = dd
        have HDD := Hid.intro hdd
        clear hdd
        go_wp2_with fail
        go_roundw
        case rel => exact ⟨3, dd, v5, v6, B5, B6, by omega, by go_num, rfl, HQ.out.2.1.alloc _, HQ.out.2.2, Or.inr (Or.inr ⟨by omega, rfl, HQ.out.1.next (Go.Joins.below_alloc1 _ _)⟩)⟩
        case measure => simp [intOf]
    · rcases hcs with ⟨rfl, rfl, hL⟩ | ⟨rfl, rfl, hL⟩ | ⟨hk2, rfl, hL⟩
      · omega
      · omega
      · have HQ : Hid (TkF W0 wr lo ga oa gp op S0 bal node n p b v own ps fx val vt) := ⟨_, _, _, _, hL⟩
        clear hL hX hJ
        rw [show (tkP bal p fx || tkF n fx (tkL bal node p b v ps fx)) = tkD bal node n p b v ps fx from rfl]
        go_wp2_with fail
        go_ret
        exact ⟨rfl, HQ.out⟩

set_option maxRecDepth 100000 in
set_option maxHeartbeats 4000000 in
theorem takeT_n (bal node n : Int) (W0 W : World) (lo ga oa gp op : Nat) (S0 : Nat → Prop) (v1 v2 : Value) (B1 B2 : Nat → Prop) (p b : Int) (v own : ByteArray) (ps : List (Sh.T shPromise)) (fx : Bool) (val : ByteArray) (vt : List (Sh.T .int)) (hvs : val.size ≤ 1073741824) (hvt : vt.length ≤ 1000) (hri : List.Pairwise (fun a b : Int => a ≤ b) vt) (h : Loc W0 lo ga oa gp op S0 W v1 v2 B1 B2 p b v own ps fx val vt) :
    Calls Try.prog 76 #[.agg (TV bal node n ga oa gp op), .bool true] W fun r w' => r = .returned (.bool (tkV bal node p fx vt)) ∧ TkT W0 w' lo ga oa gp op S0 bal node p b v own ps fx val vt := by
  obtain ⟨w1, hw1⟩ : ∃ x, x = (W.alloc (.cells (TV bal node n ga oa gp op) 111)).alloc (.cells #[.bool false, .func (.func 105) #[] #[], .func (.func 106) #[] #[], .bool false, .func (.func 107) #[] #[], .func (.func 108) #[] #[], .bool true, .func (.func 109) #[] #[], .func (.func 110) #[] #[]] 151) := ⟨_, rfl⟩
  have HS : Hid (Loc W0 lo ga oa gp op S0 w1 v1 v2 B1 B2 p b v own ps fx val vt ∧ Bx w1 W.heap.size [.int .i64 bal, .int .i64 node, .int .i64 n, .pointer (some ⟨ga, oa, none⟩), .pointer (some ⟨gp, op, none⟩)] ∧ ∀ j, B1 j ∨ B2 j → j ≠ W.heap.size) := by
    have hb1 : Below W.heap.size W w1 := hw1 ▸ (Go.Joins.below_alloc1 W _).alloc (by simp) _
    exact ⟨h.next hb1, hw1 ▸ (Bx.new W [_, _, _, _, _] _).alloc _, fun k hk => Nat.ne_of_lt (h.2.2.2.2.2.1 k hk).2.2.1⟩
  have HZ : Hid (val.size ≤ 1073741824 ∧ vt.length ≤ 1000 ∧ List.Pairwise (fun a b : Int => a ≤ b) vt) := ⟨hvs, hvt, hri⟩
  have haw : W.heap.size ≠ ga := by have := h.1.lt; omega
  have hgw : W.heap.size ≠ gp := by have := h.2.1.lt; omega
  clear h hvs hvt hri
  go_enter Try.func76, Try.ntmps76
  go_wp2_with fail
  rw [← hw1]
  clear hw1
  go_loopw [14, 6] (fun i d wr => ∃ (k : Nat) (dd : Bool) (v5 v6 : Value) (B5 B6 : Nat → Prop), k ≤ 3 ∧ i = .int .i64 k ∧ d = .bool dd ∧ Bx wr W.heap.size [.int .i64 bal, .int .i64 node, .int .i64 n, .pointer (some ⟨ga, oa, none⟩), .pointer (some ⟨gp, op, none⟩)] ∧ (∀ j, B5 j ∨ B6 j → j ≠ W.heap.size) ∧ ((k ≤ 2 ∧ dd = false ∧ Loc W0 lo ga oa gp op S0 wr v5 v6 B5 B6 p b v own ps fx val vt) ∨ (k = 3 ∧ dd = tkV bal node p fx vt ∧ Loc W0 lo ga oa gp op S0 wr v5 v6 B5 B6 (if tkV bal node p fx vt then bal else p) (if tkV bal node p fx vt then bal else b) (if tkV bal node p fx vt then val else v) own ps fx val (if tkV bal node p fx vt then insI vt node else vt)))) (fun i _ _ => 3 - (intOf i).toNat)
  case atStart => exact ⟨0, false, v1, v2, B1, B2, by omega, rfl, rfl, HS.out.2.1, HS.out.2.2, Or.inl ⟨by omega, rfl, HS.out.1⟩⟩
  case round =>
    obtain ⟨k, dd, v5, v6, B5, B6, hk, rfl, rfl, hX, hJ, hcs⟩ := hrel
    clear HS
    by_cases hlt : k < 3
    · rcases hcs with ⟨hk2, rfl, hL⟩ | ⟨hk2, rfl, hL⟩
      · by_cases hk3 : k = 2
        · subst hk3
          have HQ : Hid (Loc W0 lo ga oa gp op S0 wr v5 v6 B5 B6 p b v own ps fx val vt ∧ Bx wr W.heap.size [.int .i64 bal, .int .i64 node, .int .i64 n, .pointer (some ⟨ga, oa, none⟩), .pointer (some ⟨gp, op, none⟩)] ∧ (∀ j, B5 j ∨ B6 j → j ≠ W.heap.size)) := ⟨hL, hX, hJ⟩
          clear hL hX hJ
          have s0 := HQ.out.2.1.cell 0 rfl
          have s1 := HQ.out.2.1.cell 1 rfl
          have s2 := HQ.out.2.1.cell 2 rfl
          have s3 := HQ.out.2.1.cell 3 rfl
          have s4 := HQ.out.2.1.cell 4 rfl
          have sz := HQ.out.2.1.2
          obtain ⟨w1, hw1⟩ : ∃ x, x = wr.alloc (.cells #[.bool true, .func (.func 109) #[] #[], .func (.func 110) #[] #[]] 150) := ⟨_, rfl⟩
          have H1 : Hid (Loc W0 lo ga oa gp op S0 w1 v5 v6 B5 B6 p b v own ps fx val vt ∧ Bx w1 W.heap.size [.int .i64 bal, .int .i64 node, .int .i64 n, .pointer (some ⟨ga, oa, none⟩), .pointer (some ⟨gp, op, none⟩)] ∧ (∀ j, B5 j ∨ B6 j → j ≠ W.heap.size) ∧ Bx w1 wr.heap.size [.bool true, .func (.func 109) #[] #[], .func (.func 110) #[] #[]]) := ⟨HQ.out.1.next (hw1 ▸ Go.Joins.below_alloc1 _ _), HQ.out.2.1.next (hw1 ▸ Go.Joins.below_alloc1 _ _), HQ.out.2.2, hw1 ▸ Bx.new wr [_, _, _] _⟩
          have hmw : W.heap.size < wr.heap.size := sz
          have hix := index_mv2
          go_wp2_with fail
          clear hix
          rw [← hw1]
          refine (mayVote_n _ _ _ _ _ _ _ _ _ _ _ _ _ _ _ _ _ _ _ _ _ _ _ HZ.out.2.1 H1.out.1).mono ?_
          rintro r w2 ⟨rfl, hb⟩
          have H2 : Hid (Loc W0 lo ga oa gp op S0 w2 v5 v6 B5 B6 p b v own ps fx val vt ∧ Bx w2 W.heap.size [.int .i64 bal, .int .i64 node, .int .i64 n, .pointer (some ⟨ga, oa, none⟩), .pointer (some ⟨gp, op, none⟩)] ∧ (∀ j, B5 j ∨ B6 j → j ≠ W.heap.size) ∧ Bx w2 wr.heap.size [.bool true, .func (.func 109) #[] #[], .func (.func 110) #[] #[]]) := ⟨H1.out.1.next hb, H1.out.2.1.next hb, H1.out.2.2.1, H1.out.2.2.2.next hb⟩
          clear hb s0 s1 s2 s3 s4 sz HQ H1 hw1
          have s0 := H2.out.2.1.cell 0 rfl
          have s1 := H2.out.2.1.cell 1 rfl
          have s2 := H2.out.2.1.cell 2 rfl
          have s3 := H2.out.2.1.cell 3 rfl
          have s4 := H2.out.2.1.cell 4 rfl
          have sz := H2.out.2.1.2
          have m0 := H2.out.2.2.2.cell 0 rfl
          have m1 := H2.out.2.2.2.cell 1 rfl
          have m2 := H2.out.2.2.2.cell 2 rfl
          have mz := H2.out.2.2.2.2
          obtain ⟨cb, hcb⟩ : ∃ c, c = tkV bal node p fx vt := ⟨_, rfl⟩
          have HCB : Hid (cb = tkV bal node p fx vt) := hcb
          rw [show (fx && (decide (p ≤ bal) && !(tf (node ∈ vt)))) = cb from hcb.symm]
          clear hcb
          cases cb
          · go_wp2_with fail
            go_roundw
            case rel =>
              exact ⟨3, _, v5, v6, B5, B6, by omega, by go_num, rfl, H2.out.2.1, H2.out.2.2.1, Or.inr ⟨rfl, HCB.out, by rw [← HCB.out]; exact H2.out.1⟩⟩
            case measure => simp [intOf]
          · go_wp2_with fail
            refine (vote_n _ _ _ w2 _ _ _ _ _ _ _ v5 v6 B5 B6 _ _ _ _ _ _ _ _ HZ.out.1 HZ.out.2.1 HZ.out.2.2 H2.out.1.rebase).mono ?_
            rintro r w3 ⟨rfl, hL3⟩
            obtain ⟨v7, B7, hL3⟩ := hL3
            have HL3 := Hid.intro (And.intro (H2.out.1.join hL3) (hL3.away H2.out.2.1 haw hgw H2.out.2.2.1))
            clear hL3 s0 s1 s2 s3 s4 sz m0 m1 m2 mz
            go_wp2_with fail
            go_roundw
            case rel =>
              exact ⟨3, true, v5, v7, B5, B7, by omega, by go_num, rfl, HL3.out.2.1, HL3.out.2.2, Or.inr ⟨rfl, HCB.out, by rw [← HCB.out]; exact HL3.out.1⟩⟩
            case measure => simp [intOf]

        · have HQ : Hid (Loc W0 lo ga oa gp op S0 wr v5 v6 B5 B6 p b v own ps fx val vt ∧ Bx wr W.heap.size [.int .i64 bal, .int .i64 node, .int .i64 n, .pointer (some ⟨ga, oa, none⟩), .pointer (some ⟨gp, op, none⟩)] ∧ (∀ j, B5 j ∨ B6 j → j ≠ W.heap.size)) := ⟨hL, hX, hJ⟩
          clear hL hX hJ
          rcases (show k = 0 ∨ k = 1 by omega) with rfl | rfl
          · have hix := index_mv0
            go_wp2_with fail
            go_roundw
            case rel => exact ⟨1, false, v5, v6, B5, B6, by omega, by go_num, rfl, HQ.out.2.1.alloc _, HQ.out.2.2, Or.inl ⟨by omega, rfl, HQ.out.1.next (Go.Joins.below_alloc1 _ _)⟩⟩
            case measure => simp [intOf]
          · have hix := index_mv1
            go_wp2_with fail
            go_roundw
            case rel => exact ⟨2, false, v5, v6, B5, B6, by omega, by go_num, rfl, HQ.out.2.1.alloc _, HQ.out.2.2, Or.inl ⟨by omega, rfl, HQ.out.1.next (Go.Joins.below_alloc1 _ _)⟩⟩
            case measure => simp [intOf]
      · omega
    · rcases hcs with ⟨hk2, rfl, hL⟩ | ⟨hk2, rfl, hL⟩
      · omega
      · have HQ : Hid (TkT W0 wr lo ga oa gp op S0 bal node p b v own ps fx val vt) := ⟨_, _, _, _, hL⟩
        clear hL hX hJ
        go_wp2_with fail
        go_ret
        exact ⟨rfl, HQ.out⟩
end Go.Proofs.Ytmhkfangfhanlaa
