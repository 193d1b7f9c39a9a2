/- Put together of: SyV, DrNo, PxT, OpenBE. -/
import Derived.Test.YtmhkfangfhanlaaSyJ
import Derived.Test.YtmhkfangfhanlaaSyS
import Derived.Test.YtmhkfangfhanlaaCln
import Derived.Test.YtmhkfangfhanlaaMgG
import Derived.Test.YtmhkfangfhanlaaMgB
import Derived.Deep.QuietTactic
import Derived.BigQuiet
import Derived.Test.YtmhkfangfhanlaaPxC
import Derived.Test.YtmhkfangfhanlaaDsV
import Derived.Test.YtmhkfangfhanlaaMgF
/- Synods: the value of a ballot, on both sides. -/
namespace Go.Proofs.Ytmhkfangfhanlaa
open Go.RowKit
set_option linter.unusedVariables false
set_option linter.unusedSimpArgs false

def pz0 : Sh.T shProposer := (⟨#[]⟩, [], false, ⟨#[]⟩, [], ())
/-- The value of a ballot and whether it is fixed. -/
noncomputable def vaA (ac : List (Sh.T shAcceptor)) (ps : List (Sh.T shProposer)) (b : Int) : ByteArray × Bool :=
  if tf (goodS ac ps ∧ (1 ≤ b ∧ b ≤ (ps.length : Int))) then ((ps.getD (b - 1).toNat pz0).2.2.2.1, (ps.getD (b - 1).toNat pz0).2.2.1) else (⟨#[]⟩, false)
theorem va_no {ac : List (Sh.T shAcceptor)} {ps : List (Sh.T shProposer)} {b : Int} (h : ¬ (goodS ac ps ∧ (1 ≤ b ∧ b ≤ (ps.length : Int)))) : vaA ac ps b = (⟨#[]⟩, false) := by
  unfold vaA; rw [tf_no h]; rfl
theorem va_yes {ac : List (Sh.T shAcceptor)} {ps : List (Sh.T shProposer)} {k : Nat} (hg : goodS ac ps) (hk : k < ps.length) {x0 : ByteArray} {x1 : List (Sh.T shPromise)} {x2 : Bool} {x3 : ByteArray} {x4 : List (Sh.T .int)} (hX : ps[k] = (x0, x1, x2, x3, x4, ())) : vaA ac ps ((k : Int) + 1) = (x3, x2) := by
  unfold vaA
  rw [tf_yes ⟨hg, by omega, by omega⟩]
  have e : ((k : Int) + 1 - 1).toNat = k := by omega
  have e2 : ps.getD k pz0 = (x0, x1, x2, x3, x4, ()) := by rw [List.getD_eq_getElem?_getD, List.getElem?_eq_getElem hk, hX]; rfl
  rw [if_pos rfl, e, e2]
theorem size0 {v : ByteArray} (h : v.size = 0) : v = ⟨#[]⟩ := by
  cases v with
  | mk d => congr 1; exact Array.eq_empty_of_size_eq_zero h
theorem va_ret {A : ByteArray × Bool} {t : ByteArray} {b : Bool} (h : A = (t, b)) : Ending.returned (.tuple #[.string t, .bool b]) = .returned (.tuple #[.string A.1, .bool A.2]) := by rw [h]
def VaP (A : ByteArray × Bool) (w : World) (r : Ending) (w' : World) : Prop := r = .returned (.tuple #[.string A.1, .bool A.2]) ∧ Below w.heap.size w w'

set_option maxRecDepth 100000 in
set_option maxHeartbeats 4000000 in
theorem valueAt_n (cs : List Value) (ac : List (Sh.T shAcceptor)) (ps : List (Sh.T shProposer)) (b : Int) (w : World) (hz : szD shSynod (ac, ps, ()) ≤ 1073741824) (h : Lies w shSynod cs (ac, ps, ())) :
    Calls Try.prog 19 #[.agg cs.toArray, .int .i64 b] w (VaP (vaA ac ps b) w) := by
  obtain ⟨a1, k1, a2, k2, rfl, h1, h2⟩ := lies_Synod h
  have HL : Hid (Lies w (.list shAcceptor) [.slice a1 ac.length k1] ac ∧ Lies w (.list shProposer) [.slice a2 ps.length k2] ps) := ⟨h1, h2⟩
  have HZ : Hid (szD shSynod (ac, ps, ()) ≤ 1073741824) := hz
  have hno := (syn_sizes hz).2.2.2
  clear h h1 h2 hz
  have HB0 : Hid (Bx (w.alloc (.cells #[.slice a1 ac.length k1, .slice a2 ps.length k2] 30)) w.heap.size [.slice a1 ac.length k1, .slice a2 ps.length k2] ∧ Below w.heap.size w (w.alloc (.cells #[.slice a1 ac.length k1, .slice a2 ps.length k2] 30))) := ⟨Bx.new w [_, _] _, Go.Joins.below_alloc1 _ _⟩
  go_enter Try.func19, Try.ntmps19
  go_wp2_with fail
  refine (goodSynod_n [.slice a1 ac.length k1, .slice a2 ps.length k2] ac ps _ HZ.out (mk_Synod (HL.out.1.next HB0.out.2) (HL.out.2.next HB0.out.2))).mono ?_
  rintro r w1 ⟨rfl, hb⟩
  have HB1 : Hid (Bx w1 w.heap.size [.slice a1 ac.length k1, .slice a2 ps.length k2] ∧ Below w.heap.size w w1) := ⟨HB0.out.1.next hb, below_next HB0.out.2 hb⟩
  clear hb HB0
  have s0 := (HB1.out.1).cell 0 rfl; have s1 := (HB1.out.1).cell 1 rfl; have sz := (HB1.out.1).2
  by_cases c0 : goodS ac ps
  case neg =>
    rw [tf_no c0]
    have HN : Hid (vaA ac ps b = (⟨#[]⟩, false)) := Hid.intro (va_no (fun q => c0 q.1))
    clear c0
    go_wp2
    go_ret2
    exact ⟨va_ret HN.out, HB1.out.2⟩
  rw [tf_yes c0]
  have HG : Hid (goodS ac ps) := c0
  clear c0
  cases c1 : inR b 1 (ps.length : Int)
  · have HN : Hid (vaA ac ps b = (⟨#[]⟩, false)) := Hid.intro (va_no (fun q => by rw [inR_iff.2 q.2] at c1; cases c1))
    go_wp2_with (first | (go_at_call 54; refine (inRange_any _ _ _ _).mono ?_; rintro e w' ⟨rfl, rfl⟩))
    go_ret2
    exact ⟨va_ret HN.out, HB1.out.2⟩
  have hbd := inR_iff.1 c1
  obtain ⟨k, rfl⟩ : ∃ k : Nat, b = (k : Int) + 1 := ⟨(b - 1).toNat, by omega⟩
  have hlx : k < ps.length := by omega
  have hlt' : (k : Int) < (ps.length : Int) := by omega
  have hk1 : (k : Int) + 1 - 1 = (k : Int) := by omega
  have HLE : Hid (Lies w1 (.list shProposer) [.slice a2 ps.length k2] ps) := HL.out.2.next HB1.out.2
  obtain ⟨xg, xoff, xgo, xgs, xec, xel, xhec, xle⟩ := Lies.elem (HLE.out) hlx
  subst xgo
  rcases xX : ps[k] with ⟨x0, x1, x2, x3, x4, ⟨⟩⟩
  rw [xX] at xle
  have xH : Hid (ps[k] = (x0, x1, x2, x3, x4, ())) := xX
  clear xX
  obtain ⟨xa1, xk1, xa2, xk2, xev, xq1, xq2⟩ := lies_Proposer xle
  subst xev
  have xc0 : w1.cell? ⟨xg, xoff + k * 5, none⟩ = some (.string x0) := xhec 0 (by simp)
  have xc1 : w1.cell? ⟨xg, xoff + k * 5 + 1, none⟩ = some (.slice xa1 x1.length xk1) := xhec 1 (by simp)
  have xc2 : w1.cell? ⟨xg, xoff + k * 5 + 2, none⟩ = some (.bool x2) := xhec 2 (by simp)
  have xc3 : w1.cell? ⟨xg, xoff + k * 5 + 3, none⟩ = some (.string x3) := xhec 3 (by simp)
  have xc4 : w1.cell? ⟨xg, xoff + k * 5 + 4, none⟩ = some (.slice xa2 x4.length xk2) := xhec 4 (by simp)
  clear xhec xel xle
  have HV : Hid (x3.size ≤ 281474976710656) := Hid.intro (by have := ((syn_sizes HZ.out).2.1 ps[k] (List.getElem_mem hlx)).2.2.1; rw [xH.out] at this; have h2 : x3.size ≤ 1073741824 := this; omega)
  have HN : Hid (vaA ac ps ((k : Int) + 1) = (x3, x2)) := Hid.intro (va_yes HG.out hlx xH.out)
  obtain ⟨w2, hw2⟩ : ∃ x, x = w1.alloc (.cells #[.string x0, .slice xa1 x1.length xk1, .bool x2, .string x3, .slice xa2 x4.length xk2] 43) := ⟨_, rfl⟩
  have HB2 : Hid (Bx w2.drew w1.heap.size [.string x0, .slice xa1 x1.length xk1, .bool x2, .string x3, .slice xa2 x4.length xk2] ∧ Below w.heap.size w w2.drew) := ⟨(hw2 ▸ Bx.new w1 [_, _, _, _, _] _ : Bx w2 _ _).next (below_drew _), (hw2 ▸ (HB1.out.2.alloc HB1.out.2.size _) : Below w.heap.size w w2).drew⟩
  clear HLE xq1 xq2
  go_upto_region 4 with (first | (go_at_call 54; refine (inRange_any _ _ _ _).mono ?_; rintro e w' ⟨rfl, hw⟩; have hw := hw.symm; subst hw; rw [c1]))
  rw [← hw2]
  clear hw2 s0 s1 sz xc0 xc1 xc2 xc3 xc4 HB1
  refine wp_region_noPanic ?_
  refine wp_region_held_drew (S := fun W => Bx W w1.heap.size [.string x0, .slice xa1 x1.length xk1, .bool x2, .string x3, .slice xa2 x4.length xk2]) (by kernel_rfl) HB2.out.1 (fun hHeld => ?_)
  refine take_v (v := ?_) 0 ⟨some 24, Op.fieldAddr 43 (Operand.tmp 6) 3, _, _, _, none⟩ rfl (fun _ _ _ h => h) ?_ hHeld ?_
  rotate_left
  · (intro W _; go_simp <;> (try with_reducible rfl))
  refine take_v (v := ?_) 1 ⟨some 25, Op.load 9 (Operand.tmp 24), _, _, _, none⟩ rfl (fun _ _ _ h => h) ?_ hHeld ?_
  rotate_left
  · (intro W hSW; (have s0 := hSW.cell 0 rfl; have s1 := hSW.cell 1 rfl; have s2 := hSW.cell 2 rfl; have s3 := hSW.cell 3 rfl; have s4 := hSW.cell 4 rfl; have sz := hSW.2); go_simp <;> (try with_reducible rfl))
  refine take_v (v := ?_) 3 ⟨some 27, Op.fieldAddr 43 (Operand.tmp 6) 2, _, _, _, none⟩ rfl (fun _ _ _ h => h) ?_ hHeld ?_
  rotate_left
  · (intro W _; go_simp <;> (try with_reducible rfl))
  refine take_v (v := ?_) 4 ⟨some 28, Op.load 4 (Operand.tmp 27), _, _, _, none⟩ rfl (fun _ _ _ h => h) ?_ hHeld ?_
  rotate_left
  · (intro W hSW; (have s0 := hSW.cell 0 rfl; have s1 := hSW.cell 1 rfl; have s2 := hSW.cell 2 rfl; have s3 := hSW.cell 3 rfl; have s4 := hSW.cell 4 rfl; have sz := hSW.2); go_simp <;> (try with_reducible rfl))
  refine ready_call 2 ⟨some 26, Op.call { callee := Callee.value (Operand.func 53), args := #[Operand.tmp 25], argTypes := #[9] }, _, _, _, none⟩ (by kernel_rfl) rfl (by kernel_rfl) (fun KC hK => ?_)
  go_wp2_with fail
  refine (clone_any _ _ HV.out).mono ?_
  rintro r w3 ⟨rfl, hb⟩
  have HB3 : Hid (Bx w3 w1.heap.size [.string x0, .slice xa1 x1.length xk1, .bool x2, .string x3, .slice xa2 x4.length xk2] ∧ Below w.heap.size w w3) := ⟨HB2.out.1.next hb, below_next HB2.out.2 hb⟩
  clear hb
  refine hK.out _ _ HB3.out.1 (fun hHeld => ?_)
  clear hK KC
  refine take_v (v := ?_) 5 ⟨some 4, Op.assign (Operand.tmp 26), _, _, _, none⟩ rfl (fun _ _ _ h => h) ?_ hHeld ?_
  rotate_left
  · (intro W _; go_simp <;> (try with_reducible rfl))
  refine take_v (v := ?_) 6 ⟨some 5, Op.assign (Operand.tmp 28), _, _, _, none⟩ rfl (fun _ _ _ h => h) ?_ hHeld ?_
  rotate_left
  · (intro W _; go_simp <;> (try with_reducible rfl))
  refine wpAnyH_done (by kernel_rfl) ?_ _
  refine NoPanic.normal ?_
  clear hHeld
  go_wp2
  go_ret2
  exact ⟨va_ret HN.out, HB3.out.2⟩

set_option maxRecDepth 100000 in
set_option maxHeartbeats 4000000 in
theorem specValueAt_n (cs : List Value) (ac : List (Sh.T shAcceptor)) (ps : List (Sh.T shProposer)) (b : Int) (w : World) (hz : szD shSynod (ac, ps, ()) ≤ 1073741824) (h : Lies w shSynod cs (ac, ps, ())) :
    Calls Try.prog 20 #[.agg cs.toArray, .int .i64 b] w (VaP (vaA ac ps b) w) := by
  obtain ⟨a1, k1, a2, k2, rfl, h1, h2⟩ := lies_Synod h
  have HL : Hid (Lies w (.list shAcceptor) [.slice a1 ac.length k1] ac ∧ Lies w (.list shProposer) [.slice a2 ps.length k2] ps) := ⟨h1, h2⟩
  have HZ : Hid (szD shSynod (ac, ps, ()) ≤ 1073741824) := hz
  have hno := (syn_sizes hz).2.2.2
  clear h h1 h2 hz
  have HB0 : Hid (Bx (w.alloc (.cells #[.slice a1 ac.length k1, .slice a2 ps.length k2] 30)) w.heap.size [.slice a1 ac.length k1, .slice a2 ps.length k2] ∧ Below w.heap.size w (w.alloc (.cells #[.slice a1 ac.length k1, .slice a2 ps.length k2] 30))) := ⟨Bx.new w [_, _] _, Go.Joins.below_alloc1 _ _⟩
  go_enter Try.func20, Try.ntmps20
  go_wp2_with fail
  refine (specGoodSynod_n [.slice a1 ac.length k1, .slice a2 ps.length k2] ac ps _ HZ.out (mk_Synod (HL.out.1.next HB0.out.2) (HL.out.2.next HB0.out.2))).mono ?_
  rintro r w1 ⟨rfl, hb⟩
  have HB1 : Hid (Bx w1 w.heap.size [.slice a1 ac.length k1, .slice a2 ps.length k2] ∧ Below w.heap.size w w1) := ⟨HB0.out.1.next hb, below_next HB0.out.2 hb⟩
  clear hb HB0
  have s0 := (HB1.out.1).cell 0 rfl; have s1 := (HB1.out.1).cell 1 rfl; have sz := (HB1.out.1).2
  by_cases c0 : goodS ac ps
  case neg =>
    rw [tf_no c0]
    have HN : Hid (vaA ac ps b = (⟨#[]⟩, false)) := Hid.intro (va_no (fun q => c0 q.1))
    clear c0
    go_wp2
    go_ret2
    exact ⟨va_ret HN.out, HB1.out.2⟩
  rw [tf_yes c0]
  have HG : Hid (goodS ac ps) := c0
  clear c0
  cases c1 : inR b 1 (ps.length : Int)
  · have HN : Hid (vaA ac ps b = (⟨#[]⟩, false)) := Hid.intro (va_no (fun q => by rw [inR_iff.2 q.2] at c1; cases c1))
    go_wp2_with (first | (go_at_call 58; refine (l1In_any _ _ _ _).mono ?_; rintro e w' ⟨rfl, rfl⟩))
    go_ret2
    exact ⟨va_ret HN.out, HB1.out.2⟩
  have hbd := inR_iff.1 c1
  obtain ⟨k, rfl⟩ : ∃ k : Nat, b = (k : Int) + 1 := ⟨(b - 1).toNat, by omega⟩
  have hlx : k < ps.length := by omega
  have hlt' : (k : Int) < (ps.length : Int) := by omega
  have hk1 : (k : Int) + 1 - 1 = (k : Int) := by omega
  have HLE : Hid (Lies w1 (.list shProposer) [.slice a2 ps.length k2] ps) := HL.out.2.next HB1.out.2
  obtain ⟨xg, xoff, xgo, xgs, xec, xel, xhec, xle⟩ := Lies.elem (HLE.out) hlx
  subst xgo
  rcases xX : ps[k] with ⟨x0, x1, x2, x3, x4, ⟨⟩⟩
  rw [xX] at xle
  have xH : Hid (ps[k] = (x0, x1, x2, x3, x4, ())) := xX
  clear xX
  obtain ⟨xa1, xk1, xa2, xk2, xev, xq1, xq2⟩ := lies_Proposer xle
  subst xev
  have xc0 : w1.cell? ⟨xg, xoff + k * 5, none⟩ = some (.string x0) := xhec 0 (by simp)
  have xc1 : w1.cell? ⟨xg, xoff + k * 5 + 1, none⟩ = some (.slice xa1 x1.length xk1) := xhec 1 (by simp)
  have xc2 : w1.cell? ⟨xg, xoff + k * 5 + 2, none⟩ = some (.bool x2) := xhec 2 (by simp)
  have xc3 : w1.cell? ⟨xg, xoff + k * 5 + 3, none⟩ = some (.string x3) := xhec 3 (by simp)
  have xc4 : w1.cell? ⟨xg, xoff + k * 5 + 4, none⟩ = some (.slice xa2 x4.length xk2) := xhec 4 (by simp)
  clear xhec xel xle
  have HN : Hid (vaA ac ps ((k : Int) + 1) = (x3, x2)) := Hid.intro (va_yes HG.out hlx xH.out)
  have HE : Hid (x2 = false → x3 = ⟨#[]⟩) := Hid.intro (fun e => by
    have := HG.out.2.2.2 k hlx hlx
    rw [xH.out] at this
    exact size0 (this.2.2.2.2.1 e).1)
  clear HLE xq1 xq2
  cases x2
  · have HX3 : Hid (x3 = ⟨#[]⟩) := HE.out rfl
    go_wp2_with (first | (go_at_call 58; refine (l1In_any _ _ _ _).mono ?_; rintro e w' ⟨rfl, rfl⟩))
    go_ret2
    exact ⟨va_ret (by rw [HN.out, HX3.out]), HB1.out.2⟩
  · go_wp2_with (first | (go_at_call 58; refine (l1In_any _ _ _ _).mono ?_; rintro e w' ⟨rfl, rfl⟩))
    go_ret2
    exact ⟨va_ret HN.out, HB1.out.2⟩
end Go.Proofs.Ytmhkfangfhanlaa
/- The law's own numberOf. -/
namespace Go.Proofs.Ytmhkfangfhanlaa
open Go.RowKit
set_option linter.unusedVariables false

set_option maxHeartbeats 1000000 in
theorem numberOf_any (a : Option Addr) (n cap : Nat) (X : Nat → Int) (w : World) (hn : n ≤ 9223372036854775807) (hs : Sl w a n 1 (byF X)) (hX : ∀ i, i < n → 0 ≤ X i ∧ X i ≤ 255) :
    Calls Try.prog 18 #[.slice a n cap] w fun r w' => ∃ v : Nat, v < 1000003 ∧ r = .returned (.int .i64 v) ∧ Below w.heap.size w w' := by
  go_enter Try.func18, Try.ntmps18
  go_wp2
  go_loopw [8, 3] (fun x y wr => ∃ i v : Nat, i ≤ n ∧ v < 1000003 ∧ x = .int .i64 i ∧ y = .int .i64 v ∧ Below w.heap.size w wr) (fun x _ _ => n - (intOf x).toNat)
  case atStart => exact ⟨0, 0, Nat.zero_le _, by omega, rfl, rfl, Below.refl _ _⟩
  case round =>
    obtain ⟨i, v, hi, hv, rfl, rfl, hBr⟩ := hrel
    by_cases hin : i < n
    · have hin' : (i : Int) < (n : Int) := by omega
      rcases hs.below hBr (Nat.le_refl _) with h | ⟨b, off, rfl, hbs, hE⟩
      · omega
      have hc := hE i hin 0 (by omega)
      rw [Nat.mul_one, Nat.add_zero] at hc
      have hxi := hX i hin
      obtain ⟨x, hx⟩ : ∃ x : Nat, X i = (x : Int) := ⟨(X i).toNat, by omega⟩
      have hc' : wr.cell? ⟨b, off + i, none⟩ = some (.int .u8 (x : Int)) := by rw [hc]; show some (byF X i 0) = _; simp [byF, hx]
      have HB : Hid (Below w.heap.size w wr) := hBr
      have hx255 : x ≤ 255 := by omega
      clear hc hE hs hX hxi hx hBr
      go_wp2
      go_roundw
      case rel => exact ⟨i + 1, (31 * v + x) % 1000003, by omega, Nat.mod_lt _ (by omega), by go_num, by congr 1, HB.out⟩
      case measure => simp [intOf]; omega
    · have hin' : ¬ (i : Int) < (n : Int) := by omega
      clear hs hX
      go_wp2
      go_ret
      exact ⟨v, hv, rfl, hBr⟩
end Go.Proofs.Ytmhkfangfhanlaa
/- The law's own sameTexts, and what FnStable asks of a play. -/
namespace Go.Proofs.Ytmhkfangfhanlaa
open Go.RowKit
set_option linter.unusedVariables false
set_option linter.unusedSimpArgs false

set_option maxRecDepth 100000 in
set_option maxHeartbeats 2000000 in
theorem sameTexts_same (a a' : Option Addr) (cap cap' : Nat) (l : List (Sh.T .str)) (w : World) (hn : l.length ≤ 1048576) (hs : Lies w (.list .str) [.slice a l.length cap] l) (hs' : Lies w (.list .str) [.slice a' l.length cap'] l) :
    Calls Try.prog 21 #[.slice a l.length cap, .slice a' l.length cap'] w fun r w' => r = .returned (.bool true) ∧ Below w.heap.size w w' := by
  have HL : Hid (Lies w (.list .str) [.slice a l.length cap] l ∧ Lies w (.list .str) [.slice a' l.length cap'] l) := ⟨hs, hs'⟩
  clear hs hs'
  go_enter Try.func21, Try.ntmps21
  go_wp2
  go_loopw [13] (fun i wr => ∃ k : Nat, k ≤ l.length ∧ i = .int .i64 k ∧ Below w.heap.size w wr) (fun i _ => l.length - (intOf i).toNat)
  case atStart => exact ⟨0, Nat.zero_le _, rfl, Below.refl _ _⟩
  case round =>
    obtain ⟨k, hk, rfl, hBr⟩ := hrel
    by_cases hlt : k < l.length
    · obtain ⟨g, off, hgo, hgs, ec, hel, hec, hle⟩ := Lies.elem (HL.out.1.next hBr) hlt
      obtain ⟨g', off', hgo', hgs', ec', hel', hec', hle'⟩ := Lies.elem (HL.out.2.next hBr) hlt
      subst hgo hgo'
      have hev : ec = [.string l[k]] := hle
      have hev' : ec' = [.string l[k]] := hle'
      subst hev hev'
      have c0 : wr.cell? ⟨g, off + k, none⟩ = some (.string l[k]) := by have := hec 0 (by simp); simpa [Sh.c] using this
      have c1 : wr.cell? ⟨g', off' + k, none⟩ = some (.string l[k]) := by have := hec' 0 (by simp); simpa [Sh.c] using this
      obtain ⟨t, ht⟩ : ∃ t, t = l[k] := ⟨_, rfl⟩
      rw [← ht] at c0 c1
      have hlt' : (k : Int) < (l.length : Int) := by omega
      have HB : Hid (Below w.heap.size w wr) := hBr
      clear hec hec' hel hel' hle hle' ht hBr
      go_upto_region 6 with fail
      go_quiet (fail)
      go_wp2
      go_roundw
      case rel => exact ⟨k + 1, by omega, by go_num, below_drewN HB.out _⟩
      case measure => simp [intOf]; omega
    · have hkn : k = l.length := by omega
      have HB : Hid (Below w.heap.size w wr) := hBr
      clear hBr hkn
      go_wp2
      go_ret
      exact ⟨rfl, HB.out⟩
theorem playSynod_k (kk : Nat) (m : Int) (a1 : Option Addr) (k1 : Nat) (vs : List (Sh.T .str)) (a2 : Option Addr) (k2 : Nat) (l : List (Sh.T shSynodStep)) (w : World) (AC : List (Sh.T shAcceptor)) (PS : List (Sh.T shProposer)) (D : List (Sh.T .bool)) (z : Bool) (hA : PlH m vs (l.take kk) AC PS D z) (hk : kk ≤ l.length) (hz : szD (.list .str) vs ≤ 1000) (hn : l.length ≤ 121) (h1 : Lies w (.list .str) [.slice a1 vs.length k1] vs) (h2 : Lies w (.list shSynodStep) [.slice a2 l.length k2] l) :
    Calls Try.prog 12 #[.int .i64 m, .slice a1 vs.length k1, .slice a2 kk k2] w (PlP AC PS D z w) ∧ Calls Try.prog 13 #[.int .i64 m, .slice a1 vs.length k1, .slice a2 kk k2] w (PlP AC PS D z w) := by
  have e : (l.take kk).length = kk := by rw [List.length_take]; omega
  have h3 := h2.take kk hk
  have q1 := playSynod_n m a1 k1 vs a2 k2 (l.take kk) w (by omega) (by omega) h1 (by rw [e]; exact h3)
  have q2 := specPlaySynod_n m a1 k1 vs a2 k2 (l.take kk) w (by omega) (by omega) h1 (by rw [e]; exact h3)
  rw [e] at q1 q2
  rw [← hA.1, ← hA.2.1, ← hA.2.2.1, ← hA.2.2.2]
  exact ⟨q1, q2⟩
theorem lies_cap {w : World} {e : Sh} {a : Option Addr} {n cap : Nat} {l : List e.T} (h : Lies w (.list e) [.slice a n cap] l) : n ≤ cap := by
  obtain ⟨_, _, e1, h1, _⟩ := h
  simp only [List.cons.injEq, Value.slice.injEq, and_true] at e1
  obtain ⟨_, rfl, rfl⟩ := e1
  exact h1
theorem lies_Synod2 {w : World} {p1 : Option Addr} {n1 q1 : Nat} {p2 : Option Addr} {n2 q2 : Nat} {A : List (Sh.T shAcceptor)} {P : List (Sh.T shProposer)} (h : Lies w shSynod [.slice p1 n1 q1, .slice p2 n2 q2] (A, P, ())) : Lies w (.list shProposer) [.slice p2 n2 q2] P := by
  obtain ⟨_, _, _, _, e, _, h2⟩ := lies_Synod h
  simp only [List.cons.injEq, Value.slice.injEq, and_true] at e
  obtain ⟨_, rfl, rfl, rfl⟩ := e
  exact h2
/-- What two plays have, one the beginning of the other. -/
structure Two (m : Int) (vs : List (Sh.T .str)) (A1 : List (Sh.T shAcceptor)) (P1 : List (Sh.T shProposer)) (A2 : List (Sh.T shAcceptor)) (P2 : List (Sh.T shProposer)) : Prop where
  one : Played A1 P1
  two : Played A2 P2
  later : Later (A1, P1) (A2, P2)
  accs : (A1.length : Int) = m
  pros : P1.length = vs.length
theorem two_of {m : Int} {vs : List (Sh.T .str)} {l : List (Sh.T shSynodStep)} {kk : Nat} {A1 : List (Sh.T shAcceptor)} {P1 : List (Sh.T shProposer)} {D1 : List (Sh.T .bool)} {A2 : List (Sh.T shAcceptor)} {P2 : List (Sh.T shProposer)} {D2 : List (Sh.T .bool)} (hk : kk ≤ l.length) (h1 : PlH m vs (l.take kk) A1 P1 D1 true) (h2 : PlH m vs l A2 P2 D2 true) : Two m vs A1 P1 A2 P2 := by
  have o1 : plOk m vs (l.take kk) := tf_iff.1 h1.2.2.2
  have o2 : plOk m vs l := tf_iff.1 h2.2.2.2
  have e1 := (pl_yes o1).1
  have e2 := (pl_yes o2).1
  have hp := played_new o1.1
  have p1 := played_k (l := l) hp kk hk
  have p2 := played_k (l := l) hp l.length (Nat.le_refl _)
  have p3 := later_k (l := l) hp kk (l.length - kk) (by omega)
  have p4 := later_k (l := l) hp 0 kk (by omega)
  rw [show kk + (l.length - kk) = l.length by omega] at p3
  rw [List.take_length] at p2 p3
  rw [Nat.zero_add, List.take_zero] at p4
  obtain ⟨a1, b1, _⟩ := h1
  obtain ⟨a2, b2, _⟩ := h2
  rw [e1] at a1 b1
  rw [e2] at a2 b2
  subst a1 b1 a2 b2
  refine ⟨p1, p2, p3, ?_, ?_⟩
  · have := p4.1
    have e : (plF (pl0 m vs) []).1.1.length = m.toNat := by show (List.replicate m.toNat z0A).length = _; rw [List.length_replicate]
    rw [e] at this
    have := o1.1.1
    omega
  · have := p4.2.1
    have e : (plF (pl0 m vs) []).1.2.length = vs.length := by show (List.map mkPr vs).length = _; rw [List.length_map]
    rw [e] at this
    exact this.symm
end Go.Proofs.Ytmhkfangfhanlaa
/- A list of bytes that came in: its elements. -/
namespace Go.Proofs.Ytmhkfangfhanlaa
open Go.RowKit Go.Deep
set_option linter.unusedVariables false
theorem cells_u8 : Try.prog.cellsOf 5 = 1 := by kernel_rfl
theorem wf_byte {q : Int} (h : (Lit.int .u8 q).wf = true) : 0 ≤ q ∧ q ≤ 255 := by
  simpa [Lit.wf, IntKind.min, IntKind.max, IntKind.signed, IntKind.bits] using h
theorem one_of {α : Type} {l : List α} (h : l.length = 1) : ∃ a, l = [a] := by
  match l, h with
  | [a], _ => exact ⟨a, rfl⟩
theorem open_bytes {H : Type} {enc : TypeId × Value → H} {w : World} {a : Option Addr} {len cap : Nat} {d : DataW H} {p : List MemPlace}
    (h : DataW.Trod enc Try.prog w 0 (fun _ => true) true 22 (.slice a len cap) d p) : len ≤ maxLen ∧ ∃ X, Sl w a len 1 (byF X) ∧ ∀ i, i < len → 0 ≤ X i ∧ X i ≤ 255 := by
  obtain ⟨hl, h | ⟨b, off, rfl, hb, hel⟩⟩ := open_elems Try.underlying22 cells_u8 (by omega) h
  · exact ⟨hl, fun _ => 0, Or.inl h, fun i hi => by omega⟩
  · have each : ∀ i, i < len → ∃ q : Int, w.cell? ⟨b, off + i * 1 + 0, none⟩ = some (.int .u8 q) ∧ 0 ≤ q ∧ q ≤ 255 := by
      intro i hi
      obtain ⟨cs, n, y, hlen, hc, ht⟩ := hel i hi
      obtain ⟨v, rfl⟩ := one_of hlen
      obtain ⟨q, q0, _, wf⟩ := DataW.trod_int Try.underlying5 ht
      simp only [List.cons.injEq, and_true] at q0
      subst q0
      exact ⟨q, by rw [hc 0 (by omega)]; rfl, wf_byte wf⟩
    obtain ⟨q, hq⟩ := choose_lt each
    refine ⟨hl, q, Or.inr ⟨b, off, rfl, hb, fun i hi j hj => ?_⟩, fun i hi => (hq i hi).2⟩
    have : j = 0 := by omega
    subst this
    exact (hq i hi).1
end Go.Proofs.Ytmhkfangfhanlaa
