/- Synods: the value of a ballot, on both sides. -/
import Derived.Test.YtmhkfangfhanlaaSyJ
import Derived.Test.YtmhkfangfhanlaaSyS
import Derived.Test.YtmhkfangfhanlaaCln
namespace Go.Proofs.Ytmhkfangfhanlaa
open Go.RowKit
set_option linter.unusedVariables false
set_option linter.unusedSimpArgs false

def pz0 : Sh.T shProposer := (⟨#[]⟩, [], false, ⟨#[]⟩, [], ())
/-- The value of a ballot and whether it is fixed. -/
noncomputable def vaA (ac : List (Sh.T shAcceptor)) (ps : List (Sh.T shProposer)) (b : Int) : ByteArray × Bool :=
  if tf (goodS ac ps ∧ (1 ≤ b ∧ b ≤ (ps.length : Int))) then ((ps.getD (b - 1).toNat pz0).2.2.2.1, (ps.getD (b - 1).toNat pz0).2.2.1) else (⟨#[]⟩, false)
theorem va_no {ac : List (Sh.T shAcceptor)} {ps : List (Sh.T shProposer)} {b : Int} (h : ¬ (goodS ac ps ∧ (1 ≤ b ∧ b ≤ (ps.length : Int)))) : vaA ac ps b = (⟨#[]⟩, false) := by
  unfold vaA; rw [tf_no h]; rfl
theorem va_yes {ac : List (Sh.T shAcceptor)} {ps : List (Sh.T shProposer)} {k : Nat} (hg : goodS ac ps) (hk : k < ps.length) {x0 : ByteArray} {x1 : List (Sh.T shPromise)} {x2 : Bool} {x3 : ByteArray} {x4 : List (Sh.T .int)} (hX : ps[k] = (x0, x1, x2, x3, x4, ())) : vaA ac ps ((k : Int) + 1) = (x3, x2) := by
  unfold vaA
  rw [tf_yes ⟨hg, by omega, by omega⟩]
  have e : ((k : Int) + 1 - 1).toNat = k := by omega
  have e2 : ps.getD k pz0 = (x0, x1, x2, x3, x4, ()) := by rw [List.getD_eq_getElem?_getD, List.getElem?_eq_getElem hk, hX]; rfl
  rw [if_pos rfl, e, e2]
theorem size0 {v : ByteArray} (h : v.size = 0) : v = ⟨#[]⟩ := by
  cases v with
  | mk d => congr 1; exact Array.eq_empty_of_size_eq_zero h
theorem va_ret {A : ByteArray × Bool} {t : ByteArray} {b : Bool} (h : A = (t, b)) : Ending.returned (.tuple #[.string t, .bool b]) = .returned (.tuple #[.string A.1, .bool A.2]) := by rw [h]
def VaP (A : ByteArray × Bool) (w : World) (r : Ending) (w' : World) : Prop := r = .returned (.tuple #[.string A.1, .bool A.2]) ∧ Below w.heap.size w w'

set_option maxRecDepth 100000 in
set_option maxHeartbeats 4000000 in
theorem valueAt_n (cs : List Value) (ac : List (Sh.T shAcceptor)) (ps : List (Sh.T shProposer)) (b : Int) (w : World) (hz : szD shSynod (ac, ps, ()) ≤ 1073741824) (h : Lies w shSynod cs (ac, ps, ())) :
    Calls Try.prog 19 #[.agg cs.toArray, .int .i64 b] w (VaP (vaA ac ps b) w) := by
  obtain ⟨a1, k1, a2, k2, rfl, h1, h2⟩ := lies_Synod h
  have HL : Hid (Lies w (.list shAcceptor) [.slice a1 ac.length k1] ac ∧ Lies w (.list shProposer) [.slice a2 ps.length k2] ps) := ⟨h1, h2⟩
  have HZ : Hid (szD shSynod (ac, ps, ()) ≤ 1073741824) := hz
  have hno := (syn_sizes hz).2.2.2
  clear h h1 h2 hz
  have HB0 : Hid (Bx (w.alloc (.cells #[.slice a1 ac.length k1, .slice a2 ps.length k2] 30)) w.heap.size [.slice a1 ac.length k1, .slice a2 ps.length k2] ∧ Below w.heap.size w (w.alloc (.cells #[.slice a1 ac.length k1, .slice a2 ps.length k2] 30))) := ⟨Bx.new w [_, _] _, Go.Joins.below_alloc1 _ _⟩
  go_enter Try.func19, Try.ntmps19
  go_wp2_with fail
  refine (goodSynod_n [.slice a1 ac.length k1, .slice a2 ps.length k2] ac ps _ HZ.out (mk_Synod (HL.out.1.next HB0.out.2) (HL.out.2.next HB0.out.2))).mono ?_
  rintro r w1 ⟨rfl, hb⟩
  have HB1 : Hid (Bx w1 w.heap.size [.slice a1 ac.length k1, .slice a2 ps.length k2] ∧ Below w.heap.size w w1) := ⟨HB0.out.1.next hb, below_next HB0.out.2 hb⟩
  clear hb HB0
  have s0 := (HB1.out.1).cell 0 rfl; have s1 := (HB1.out.1).cell 1 rfl; have sz := (HB1.out.1).2
  by_cases c0 : goodS ac ps
  case neg =>
    rw [tf_no c0]
    have HN : Hid (vaA ac ps b = (⟨#[]⟩, false)) := Hid.intro (va_no (fun q => c0 q.1))
    clear c0
    go_wp2
    go_ret2
    exact ⟨va_ret HN.out, HB1.out.2⟩
  rw [tf_yes c0]
  have HG : Hid (goodS ac ps) := c0
  clear c0
  cases c1 : inR b 1 (ps.length : Int)
  · have HN : Hid (vaA ac ps b = (⟨#[]⟩, false)) := Hid.intro (va_no (fun q => by rw [inR_iff.2 q.2] at c1; cases c1))
    go_wp2_with (first | (go_at_call 54; refine (inRange_any _ _ _ _).mono ?_; rintro e w' ⟨rfl, rfl⟩))
    go_ret2
    exact ⟨va_ret HN.out, HB1.out.2⟩
  have hbd := inR_iff.1 c1
  obtain ⟨k, rfl⟩ : ∃ k : Nat, b = (k : Int) + 1 := ⟨(b - 1).toNat, by omega⟩
  have hlx : k < ps.length := by omega
  have hlt' : (k : Int) < (ps.length : Int) := by omega
  have hk1 : (k : Int) + 1 - 1 = (k : Int) := by omega
  have HLE : Hid (Lies w1 (.list shProposer) [.slice a2 ps.length k2] ps) := HL.out.2.next HB1.out.2
  obtain ⟨xg, xoff, xgo, xgs, xec, xel, xhec, xle⟩ := Lies.elem (HLE.out) hlx
  subst xgo
  rcases xX : ps[k] with ⟨x0, x1, x2, x3, x4, ⟨⟩⟩
  rw [xX] at xle
  have xH : Hid (ps[k] = (x0, x1, x2, x3, x4, ())) := xX
  clear xX
  obtain ⟨xa1, xk1, xa2, xk2, xev, xq1, xq2⟩ := lies_Proposer xle
  subst xev
  have xc0 : w1.cell? ⟨xg, xoff + k * 5, none⟩ = some (.string x0) := xhec 0 (by simp)
  have xc1 : w1.cell? ⟨xg, xoff + k * 5 + 1, none⟩ = some (.slice xa1 x1.length xk1) := xhec 1 (by simp)
  have xc2 : w1.cell? ⟨xg, xoff + k * 5 + 2, none⟩ = some (.bool x2) := xhec 2 (by simp)
  have xc3 : w1.cell? ⟨xg, xoff + k * 5 + 3, none⟩ = some (.string x3) := xhec 3 (by simp)
  have xc4 : w1.cell? ⟨xg, xoff + k * 5 + 4, none⟩ = some (.slice xa2 x4.length xk2) := xhec 4 (by simp)
  clear xhec xel xle
  have HV : Hid (x3.size ≤ 281474976710656) := Hid.intro (by have := ((syn_sizes HZ.out).2.1 ps[k] (List.getElem_mem hlx)).2.2.1; rw [xH.out] at this; have h2 : x3.size ≤ 1073741824 := this; omega)
  have HN : Hid (vaA ac ps ((k : Int) + 1) = (x3, x2)) := Hid.intro (va_yes HG.out hlx xH.out)
  obtain ⟨w2, hw2⟩ : ∃ x, x = w1.alloc (.cells #[.string x0, .slice xa1 x1.length xk1, .bool x2, .string x3, .slice xa2 x4.length xk2] 43) := ⟨_, rfl⟩
  have HB2 : Hid (Bx w2.drew w1.heap.size [.string x0, .slice xa1 x1.length xk1, .bool x2, .string x3, .slice xa2 x4.length xk2] ∧ Below w.heap.size w w2.drew) := ⟨(hw2 ▸ Bx.new w1 [_, _, _, _, _] _ : Bx w2 _ _).next (below_drew _), (hw2 ▸ (HB1.out.2.alloc HB1.out.2.size _) : Below w.heap.size w w2).drew⟩
  clear HLE xq1 xq2
  go_upto_region 4 with (first | (go_at_call 54; refine (inRange_any _ _ _ _).mono ?_; rintro e w' ⟨rfl, hw⟩; have hw := hw.symm; subst hw; rw [c1]))
  rw [← hw2]
  clear hw2 s0 s1 sz xc0 xc1 xc2 xc3 xc4 HB1
  refine wp_region_noPanic ?_
  refine wp_region_held_drew (S := fun W => Bx W w1.heap.size [.string x0, .slice xa1 x1.length xk1, .bool x2, .string x3, .slice xa2 x4.length xk2]) (by kernel_rfl) HB2.out.1 (fun hHeld => ?_)
  refine take_v (v := ?_) 0 ⟨some 24, Op.fieldAddr 43 (Operand.tmp 6) 3, _, _, _, none⟩ rfl (fun _ _ _ h => h) ?_ hHeld ?_
  rotate_left
  · (intro W _; go_simp <;> (try with_reducible rfl))
  refine take_v (v := ?_) 1 ⟨some 25, Op.load 9 (Operand.tmp 24), _, _, _, none⟩ rfl (fun _ _ _ h => h) ?_ hHeld ?_
  rotate_left
  · (intro W hSW; (have s0 := hSW.cell 0 rfl; have s1 := hSW.cell 1 rfl; have s2 := hSW.cell 2 rfl; have s3 := hSW.cell 3 rfl; have s4 := hSW.cell 4 rfl; have sz := hSW.2); go_simp <;> (try with_reducible rfl))
  refine take_v (v := ?_) 3 ⟨some 27, Op.fieldAddr 43 (Operand.tmp 6) 2, _, _, _, none⟩ rfl (fun _ _ _ h => h) ?_ hHeld ?_
  rotate_left
  · (intro W _; go_simp <;> (try with_reducible rfl))
  refine take_v (v := ?_) 4 ⟨some 28, Op.load 4 (Operand.tmp 27), _, _, _, none⟩ rfl (fun _ _ _ h => h) ?_ hHeld ?_
  rotate_left
  · (intro W hSW; (have s0 := hSW.cell 0 rfl; have s1 := hSW.cell 1 rfl; have s2 := hSW.cell 2 rfl; have s3 := hSW.cell 3 rfl; have s4 := hSW.cell 4 rfl; have sz := hSW.2); go_simp <;> (try with_reducible rfl))
  refine ready_call 2 ⟨some 26, Op.call { callee := Callee.value (Operand.func 53), args := #[Operand.tmp 25], argTypes := #[9] }, _, _, _, none⟩ (by kernel_rfl) rfl (by kernel_rfl) (fun KC hK => ?_)
  go_wp2_with fail
  refine (clone_any _ _ HV.out).mono ?_
  rintro r w3 ⟨rfl, hb⟩
  have HB3 : Hid (Bx w3 w1.heap.size [.string x0, .slice xa1 x1.length xk1, .bool x2, .string x3, .slice xa2 x4.length xk2] ∧ Below w.heap.size w w3) := ⟨HB2.out.1.next hb, below_next HB2.out.2 hb⟩
  clear hb
  refine hK.out _ _ HB3.out.1 (fun hHeld => ?_)
  clear hK KC
  refine take_v (v := ?_) 5 ⟨some 4, Op.assign (Operand.tmp 26), _, _, _, none⟩ rfl (fun _ _ _ h => h) ?_ hHeld ?_
  rotate_left
  · (intro W _; go_simp <;> (try with_reducible rfl))
  refine take_v (v := ?_) 6 ⟨some 5, Op.assign (Operand.tmp 28), _, _, _, none⟩ rfl (fun _ _ _ h => h) ?_ hHeld ?_
  rotate_left
  · (intro W _; go_simp <;> (try with_reducible rfl))
  refine wpAnyH_done (by kernel_rfl) ?_ _
  refine NoPanic.normal ?_
  clear hHeld
  go_wp2
  go_ret2
  exact ⟨va_ret HN.out, HB3.out.2⟩

set_option maxRecDepth 100000 in
set_option maxHeartbeats 4000000 in
theorem specValueAt_n (cs : List Value) (ac : List (Sh.T shAcceptor)) (ps : List (Sh.T shProposer)) (b : Int) (w : World) (hz : szD shSynod (ac, ps, ()) ≤ 1073741824) (h : Lies w shSynod cs (ac, ps, ())) :
    Calls Try.prog 20 #[.agg cs.toArray, .int .i64 b] w (VaP (vaA ac ps b) w) := by
  obtain ⟨a1, k1, a2, k2, rfl, h1, h2⟩ := lies_Synod h
  have HL : Hid (Lies w (.list shAcceptor) [.slice a1 ac.length k1] ac ∧ Lies w (.list shProposer) [.slice a2 ps.length k2] ps) := ⟨h1, h2⟩
  have HZ : Hid (szD shSynod (ac, ps, ()) ≤ 1073741824) := hz
  have hno := (syn_sizes hz).2.2.2
  clear h h1 h2 hz
  have HB0 : Hid (Bx (w.alloc (.cells #[.slice a1 ac.length k1, .slice a2 ps.length k2] 30)) w.heap.size [.slice a1 ac.length k1, .slice a2 ps.length k2] ∧ Below w.heap.size w (w.alloc (.cells #[.slice a1 ac.length k1, .slice a2 ps.length k2] 30))) := ⟨Bx.new w [_, _] _, Go.Joins.below_alloc1 _ _⟩
  go_enter Try.func20, Try.ntmps20
  go_wp2_with fail
  refine (specGoodSynod_n [.slice a1 ac.length k1, .slice a2 ps.length k2] ac ps _ HZ.out (mk_Synod (HL.out.1.next HB0.out.2) (HL.out.2.next HB0.out.2))).mono ?_
  rintro r w1 ⟨rfl, hb⟩
  have HB1 : Hid (Bx w1 w.heap.size [.slice a1 ac.length k1, .slice a2 ps.length k2] ∧ Below w.heap.size w w1) := ⟨HB0.out.1.next hb, below_next HB0.out.2 hb⟩
  clear hb HB0
  have s0 := (HB1.out.1).cell 0 rfl; have s1 := (HB1.out.1).cell 1 rfl; have sz := (HB1.out.1).2
  by_cases c0 : goodS ac ps
  case neg =>
    rw [tf_no c0]
    have HN : Hid (vaA ac ps b = (⟨#[]⟩, false)) := Hid.intro (va_no (fun q => c0 q.1))
    clear c0
    go_wp2
    go_ret2
    exact ⟨va_ret HN.out, HB1.out.2⟩
  rw [tf_yes c0]
  have HG : Hid (goodS ac ps) := c0
  clear c0
  cases c1 : inR b 1 (ps.length : Int)
  · have HN : Hid (vaA ac ps b = (⟨#[]⟩, false)) := Hid.intro (va_no (fun q => by rw [inR_iff.2 q.2] at c1; cases c1))
    go_wp2_with (first | (go_at_call 58; refine (l1In_any _ _ _ _).mono ?_; rintro e w' ⟨rfl, rfl⟩))
    go_ret2
    exact ⟨va_ret HN.out, HB1.out.2⟩
  have hbd := inR_iff.1 c1
  obtain ⟨k, rfl⟩ : ∃ k : Nat, b = (k : Int) + 1 := ⟨(b - 1).toNat, by omega⟩
  have hlx : k < ps.length := by omega
  have hlt' : (k : Int) < (ps.length : Int) := by omega
  have hk1 : (k : Int) + 1 - 1 = (k : Int) := by omega
  have HLE : Hid (Lies w1 (.list shProposer) [.slice a2 ps.length k2] ps) := HL.out.2.next HB1.out.2
  obtain ⟨xg, xoff, xgo, xgs, xec, xel, xhec, xle⟩ := Lies.elem (HLE.out) hlx
  subst xgo
  rcases xX : ps[k] with ⟨x0, x1, x2, x3, x4, ⟨⟩⟩
  rw [xX] at xle
  have xH : Hid (ps[k] = (x0, x1, x2, x3, x4, ())) := xX
  clear xX
  obtain ⟨xa1, xk1, xa2, xk2, xev, xq1, xq2⟩ := lies_Proposer xle
  subst xev
  have xc0 : w1.cell? ⟨xg, xoff + k * 5, none⟩ = some (.string x0) := xhec 0 (by simp)
  have xc1 : w1.cell? ⟨xg, xoff + k * 5 + 1, none⟩ = some (.slice xa1 x1.length xk1) := xhec 1 (by simp)
  have xc2 : w1.cell? ⟨xg, xoff + k * 5 + 2, none⟩ = some (.bool x2) := xhec 2 (by simp)
  have xc3 : w1.cell? ⟨xg, xoff + k * 5 + 3, none⟩ = some (.string x3) := xhec 3 (by simp)
  have xc4 : w1.cell? ⟨xg, xoff + k * 5 + 4, none⟩ = some (.slice xa2 x4.length xk2) := xhec 4 (by simp)
  clear xhec xel xle
  have HN : Hid (vaA ac ps ((k : Int) + 1) = (x3, x2)) := Hid.intro (va_yes HG.out hlx xH.out)
  have HE : Hid (x2 = false → x3 = ⟨#[]⟩) := Hid.intro (fun e => by
    have := HG.out.2.2.2 k hlx hlx
    rw [xH.out] at this
    exact size0 (this.2.2.2.2.1 e).1)
  clear HLE xq1 xq2
  cases x2
  · have HX3 : Hid (x3 = ⟨#[]⟩) := HE.out rfl
    go_wp2_with (first | (go_at_call 58; refine (l1In_any _ _ _ _).mono ?_; rintro e w' ⟨rfl, rfl⟩))
    go_ret2
    exact ⟨va_ret (by rw [HN.out, HX3.out]), HB1.out.2⟩
  · go_wp2_with (first | (go_at_call 58; refine (l1In_any _ _ _ _).mono ?_; rintro e w' ⟨rfl, rfl⟩))
    go_ret2
    exact ⟨va_ret HN.out, HB1.out.2⟩
end Go.Proofs.Ytmhkfangfhanlaa
