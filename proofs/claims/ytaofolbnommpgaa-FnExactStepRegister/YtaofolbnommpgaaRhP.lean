/- Registers: an op goes on, in range. Written by tools/mkRhP.py. -/
import Derived.Test.YtaofolbnommpgaaRhO
namespace Go.Proofs.Ytaofolbnommpgaa
open Go.RowKit
set_option linter.unusedVariables false
set_option linter.unusedSimpArgs false

theorem goC1 {ph : Int} (h : ph = 1) (b c : Sh.T shCopy) : goC ph b c = c := by unfold goC; rw [if_pos h]
theorem goB1 {ph : Int} (h : ph = 1) (b c : Sh.T shCopy) : goB ph b c = nwC b c := by unfold goB; rw [if_pos h]
theorem goC2 {ph : Int} (h : ph ≠ 1) (b c : Sh.T shCopy) : goC ph b c = nwC c b := by unfold goC; rw [if_neg h]
theorem goB2 {ph : Int} (h : ph ≠ 1) (b c : Sh.T shCopy) : goB ph b c = b := by unfold goB; rw [if_neg h]

theorem meet_c (W0 W : World) (lo gc oc go oo : Nat) (S0 : Nat → Prop) (v1 : Value) (B1 : Nat → Prop) (n i : Int) (t : ByteArray) (x0 : Int) (x1 : Bool) (x2 : ByteArray) (x3 b0 b1 : Int) (b2 : ByteArray) (x8 x9 : Int) (sn : List (Sh.T .int)) (n' i' : Int) (t' : ByteArray) (d0 d1 : Int) (d2 : ByteArray) (h3 : x3 = 1 ∨ x3 = 2) (ht : t.size ≤ 281474976710656) (hb : b2.size ≤ 281474976710656) (hC : goC x3 (mkCp b0 b1 b2) (mkCp n i t) = mkCp n' i' t') (hB : goB x3 (mkCp b0 b1 b2) (mkCp n i t) = mkCp d0 d1 d2)
    (h : Loc W0 lo gc (oc) go (oo) S0 W v1 B1 (cpC n i t) (opC x0 x1 x2 x3 v1 b0 b1 b2 x8 x9) sn) :
    Calls Try.prog 121 #[.pointer (some ⟨go, oo, none⟩), KV gc oc] W fun r w' => r = .returned (.tuple #[]) ∧ Loc W0 lo gc (oc) go (oo) S0 w' v1 B1 (cpC n' i' t') (opC x0 x1 x2 x3 v1 d0 d1 d2 x8 x9) sn := by
  rcases h3 with rfl | rfl
  · have hC : ((n, i, t, ()) : Sh.T shCopy) = (n', i', t', ()) := (goC1 rfl _ _).symm.trans hC
    have hB : nwC (b0, b1, b2, ()) (n, i, t, ()) = (d0, d1, d2, ()) := (goB1 rfl _ _).symm.trans hB
    cases hC
    have hu : d2.size ≤ 281474976710656 := by
      rcases nwC_or (b0, b1, b2, ()) (n, i, t, ()) with q | q
      · have e : ((b0, b1, b2, ()) : Sh.T shCopy) = (d0, d1, d2, ()) := q.symm.trans hB
        cases e; exact hb
      · have e : ((n, i, t, ()) : Sh.T shCopy) = (d0, d1, d2, ()) := q.symm.trans hB
        cases e; exact ht
    exact meet1_n W0 W lo gc oc go oo S0 v1 B1 n i t x0 x1 x2 b0 b1 b2 x8 x9 sn d0 d1 d2 hu hB h
  · have hC : nwC (n, i, t, ()) (b0, b1, b2, ()) = (n', i', t', ()) := (goC2 (by decide) _ _).symm.trans hC
    have hB : ((b0, b1, b2, ()) : Sh.T shCopy) = (d0, d1, d2, ()) := (goB2 (by decide) _ _).symm.trans hB
    cases hB
    have hu : t'.size ≤ 281474976710656 := by
      rcases nwC_or (n, i, t, ()) (b0, b1, b2, ()) with q | q
      · have e : ((n, i, t, ()) : Sh.T shCopy) = (n', i', t', ()) := q.symm.trans hC
        cases e; exact ht
      · have e : ((b0, b1, b2, ()) : Sh.T shCopy) = (n', i', t', ()) := q.symm.trans hC
        cases e; exact hb
    exact meet2_n W0 W lo gc oc go oo S0 v1 B1 n i t x0 x1 x2 b0 b1 b2 x8 x9 sn n' i' t' hu hC h
theorem end_c (W0 W : World) (lo gc oc go oo : Nat) (S0 : Nat → Prop) (v1 : Value) (B1 : Nat → Prop) (n i : Int) (t : ByteArray) (x0 : Int) (x1 : Bool) (x2 : ByteArray) (x3 b0 b1 : Int) (b2 : ByteArray) (x8 x9 : Int) (sn : List (Sh.T .int)) (ck nc : Int) (y3 e0 e1 : Int) (e2 : ByteArray) (y9 : Int) (s2 : List (Sh.T .int)) (h3 : x3 = 1 ∨ x3 = 2) (hb : 0 ≤ b0 ∧ b0 ≤ 1000) (h2 : x2.size ≤ 281474976710656) (hn : ¬ 2 * (sn.length : Int) ≤ nc) (hE : goE ck nc x0 x1 x2 x3 sn (mkCp b0 b1 b2) x8 x9 = mkOp x0 x1 x2 y3 s2 (mkCp e0 e1 e2) x8 y9)
    (h : Loc W0 lo gc (oc) go (oo) S0 W v1 B1 (cpC n i t) (opC x0 x1 x2 x3 v1 b0 b1 b2 x8 x9) sn) :
    Calls Try.prog 123 #[.pointer (some ⟨go, oo, none⟩), .int .i64 ck] W fun r w' => r = .returned (.tuple #[]) ∧ ∃ v5 B5, Loc W0 lo gc (oc) go (oo) S0 w' v5 B5 (cpC n i t) (opC x0 x1 x2 y3 v5 e0 e1 e2 x8 y9) s2 := by
  rcases h3 with rfl | rfl
  · have hE : mkOp x0 x1 x2 2 [] (if x1 = true then mkCp (b0 + 1) x0 x2 else mkCp b0 b1 b2) x8 x9 = mkOp x0 x1 x2 y3 s2 (mkCp e0 e1 e2) x8 y9 := by
      have := hE; unfold goE at this; rw [if_neg hn, if_pos rfl] at this; exact this
    have q3 : (2 : Int) = y3 := congrArg (fun z : RgO => z.2.2.2.1) hE
    have qs : ([] : List (Sh.T .int)) = s2 := congrArg (fun z : RgO => z.2.2.2.2.1) hE
    have hd : (if x1 = true then mkCp (b0 + 1) x0 x2 else mkCp b0 b1 b2 : Sh.T shCopy) = (e0, e1, e2, ()) := congrArg (fun z : RgO => z.2.2.2.2.2.1) hE
    have q9 : x9 = y9 := congrArg (fun z : RgO => z.2.2.2.2.2.2.2.1) hE
    subst q3 qs q9
    refine (end1_n W0 W lo gc oc go oo S0 v1 B1 (cpC n i t) x0 x1 x2 b0 b1 b2 x8 x9 sn ck e0 e1 e2 hb h2 hd h).mono ?_
    rintro r w' ⟨rfl, hL⟩
    exact ⟨rfl, _, _, hL⟩
  · have hE : mkOp x0 x1 x2 3 [] (mkCp b0 b1 b2) x8 ck = mkOp x0 x1 x2 y3 s2 (mkCp e0 e1 e2) x8 y9 := by
      have := hE; unfold goE at this; rw [if_neg hn, if_neg (by decide)] at this; exact this
    have q3 : (3 : Int) = y3 := congrArg (fun z : RgO => z.2.2.2.1) hE
    have qs : ([] : List (Sh.T .int)) = s2 := congrArg (fun z : RgO => z.2.2.2.2.1) hE
    have hd : ((b0, b1, b2, ()) : Sh.T shCopy) = (e0, e1, e2, ()) := congrArg (fun z : RgO => z.2.2.2.2.2.1) hE
    have q9 : ck = y9 := congrArg (fun z : RgO => z.2.2.2.2.2.2.2.1) hE
    subst q3 qs q9
    cases hd
    refine (end2_n W0 W lo gc oc go oo S0 v1 B1 (cpC n i t) x0 x1 x2 b0 b1 b2 x8 x9 sn ck h).mono ?_
    rintro r w' ⟨rfl, hL⟩
    exact ⟨rfl, _, _, hL⟩

theorem goE_size {ck nc x0 : Int} {x1 : Bool} {x2 : ByteArray} {x3 : Int} {s : List (Sh.T .int)} {d : Sh.T shCopy} {x8 x9 y3 e0 e1 : Int} {e2 : ByteArray} {y9 : Int} {s2 : List (Sh.T .int)} (hE : goE ck nc x0 x1 x2 x3 s d x8 x9 = mkOp x0 x1 x2 y3 s2 (mkCp e0 e1 e2) x8 y9) (hd : d.2.2.1.size ≤ 20) (hx : x2.size ≤ 20) : e2.size ≤ 20 := by
  have e : e2 = (goE ck nc x0 x1 x2 x3 s d x8 x9).2.2.2.2.2.1.2.2.1 := (congrArg (fun z : RgO => z.2.2.2.2.2.1.2.2.1) hE).symm
  rw [e]
  unfold goE
  split
  · exact hd
  · split
    · show (if x1 = true then mkCp (d.1 + 1) x0 x2 else d : Sh.T shCopy).2.2.1.size ≤ 20
      split
      · exact hx
      · exact hd
    · exact hd
theorem goB_bound {ph : Int} {b c d : Sh.T shCopy} (h : goB ph b c = d) (hb : (0 ≤ b.1 ∧ b.1 ≤ 1000) ∧ b.2.2.1.size ≤ 20) (hc : (0 ≤ c.1 ∧ c.1 ≤ 1000) ∧ c.2.2.1.size ≤ 20) : (0 ≤ d.1 ∧ d.1 ≤ 1000) ∧ d.2.2.1.size ≤ 20 := by
  rw [← h]
  rcases goB_or ph b c with q | q
  · rw [q]; exact hb
  · rw [q]; exact hc
theorem goE_keep {ck nc x0 : Int} {x1 : Bool} {x2 : ByteArray} {x3 : Int} {s : List (Sh.T .int)} {d0 d1 : Int} {d2 : ByteArray} {x8 x9 y3 e0 e1 : Int} {e2 : ByteArray} {y9 : Int} {s2 : List (Sh.T .int)} (hn : 2 * (s.length : Int) ≤ nc) (hE : goE ck nc x0 x1 x2 x3 s (mkCp d0 d1 d2) x8 x9 = mkOp x0 x1 x2 y3 s2 (mkCp e0 e1 e2) x8 y9) : x3 = y3 ∧ s = s2 ∧ d0 = e0 ∧ d1 = e1 ∧ d2 = e2 ∧ x9 = y9 := by
  have hE : mkOp x0 x1 x2 x3 s (mkCp d0 d1 d2) x8 x9 = mkOp x0 x1 x2 y3 s2 (mkCp e0 e1 e2) x8 y9 := by
    have := hE; unfold goE at this; rw [if_pos hn] at this; exact this
  exact ⟨congrArg (fun z : RgO => z.2.2.2.1) hE, congrArg (fun z : RgO => z.2.2.2.2.1) hE, congrArg (fun z : RgO => z.2.2.2.2.2.1.1) hE, congrArg (fun z : RgO => z.2.2.2.2.2.1.2.1) hE, congrArg (fun z : RgO => z.2.2.2.2.2.1.2.2.1) hE, congrArg (fun z : RgO => z.2.2.2.2.2.2.2.1) hE⟩
/-- What a step on an op ends with. -/
def GoR (ok : Prop) (e0 e1 : Int) (e2 : ByteArray) (L : World → Prop) (W : World) (r : Ending) (w' : World) : Prop := (¬ ok → r = .returned (.bool false) ∧ Below W.heap.size W w') ∧ (ok → r = .returned (.bool (tf (copP e0 e1 e2))) ∧ L w')
theorem GoR.no {ok : Prop} {e0 e1 : Int} {e2 : ByteArray} {L : World → Prop} {W w' : World} (h : ¬ ok) (hb : Below W.heap.size W w') : GoR ok e0 e1 e2 L W (.returned (.bool false)) w' := ⟨fun _ => ⟨rfl, hb⟩, fun q => absurd q h⟩
theorem GoR.yes {ok : Prop} {e0 e1 : Int} {e2 : ByteArray} {L : World → Prop} {W w' : World} (h : ok) (hL : L w') : GoR ok e0 e1 e2 L W (.returned (.bool (tf (copP e0 e1 e2)))) w' := ⟨fun q => absurd h q, fun _ => ⟨rfl, hL⟩⟩

set_option maxRecDepth 100000 in
set_option maxHeartbeats 8000000 in
theorem goOn_in (W0 W : World) (lo g gc go j k nc kc no ko : Nat) (S0 : Nat → Prop) (v1 : Value) (B1 : Nat → Prop) (n i : Int) (t : ByteArray) (x0 : Int) (x1 : Bool) (x2 : ByteArray) (x3 b0 b1 : Int) (b2 : ByteArray) (x8 x9 : Int) (sn : List (Sh.T .int)) (ck : Int) (bg : Bool) (cl : Int) (wr : Bool) (vl : ByteArray) (hj : j < nc) (hk : k < no) (hnk : nc ≤ kc) (hok : no ≤ ko) (hn12 : nc ≤ 12) (hn7 : no ≤ 7) (h3 : 1 ≤ x3 ∧ x3 ≤ 3) (hsl : sn.length ≤ 12) (hsr : risP sn nc) (ht : t.size ≤ 20) (h2s : x2.size ≤ 20) (hb2 : b2.size ≤ 20) (hb0 : 0 ≤ b0 ∧ b0 ≤ 1000) (hn0 : 0 ≤ n ∧ n ≤ 1000)
    (n' i' : Int) (t' : ByteArray) (d0 d1 : Int) (d2 : ByteArray) (hC : goC x3 (mkCp b0 b1 b2) (mkCp n i t) = mkCp n' i' t') (hB : goB x3 (mkCp b0 b1 b2) (mkCp n i t) = mkCp d0 d1 d2) (y3 e0 e1 : Int) (e2 : ByteArray) (y9 : Int) (sE : List (Sh.T .int)) (hE : goE ck nc x0 x1 x2 x3 (insI sn j) (mkCp d0 d1 d2) x8 x9 = mkOp x0 x1 x2 y3 sE (mkCp e0 e1 e2) x8 y9)
    (hg1 : g ≠ gc) (hg2 : g ≠ go) (hg3 : ∀ z, B1 z → z ≠ g) (hg4 : ¬ S0 g) (hR : Bx W g [.int .i64 ck, .slice (some ⟨gc, 0, none⟩) nc kc, .slice (some ⟨go, 0, none⟩) no ko]) (hgW : g < W0.heap.size)
    (h : Loc W0 lo gc (j * 3) go (k * 10) S0 W v1 B1 (cpC n i t) (opC x0 x1 x2 x3 v1 b0 b1 b2 x8 x9) sn) :
    Calls Try.prog 104 #[.pointer (some ⟨g, 0, none⟩), .agg #[.bool bg, .int .i64 cl, .bool wr, .string vl, .int .i64 (k : Int), .int .i64 (j : Int)]] W (GoR (x3 ≠ 3 ∧ (j : Int) ∉ sn) e0 e1 e2 (fun w' => ∃ v5 B5, Loc W0 lo gc (j * 3) go (k * 10) S0 w' v5 B5 (cpC n' i' t') (opC x0 x1 x2 y3 v5 e0 e1 e2 x8 y9) sE) W) := by
  obtain ⟨OK, hOK⟩ : ∃ p : Prop, p = (x3 ≠ 3 ∧ (j : Int) ∉ sn) := ⟨_, rfl⟩
  rw [← hOK]
  have HOK := Hid.intro hOK
  clear hOK
  obtain ⟨z, hz⟩ : ∃ z : Bool, z = List.contains (α := Int) sn (j : Int) := ⟨_, rfl⟩
  have HZ : Hid (z = true ↔ (j : Int) ∈ sn) := Hid.intro (by rw [hz]; exact List.contains_iff_mem ..)
  have HZE := Hid.intro hz.symm
  clear hz
  obtain ⟨va, vc, hv⟩ := h.2.2.1.vform
  have hv : v1 = .slice va (List.length (α := Sh.T .int) sn) vc := hv
  subst hv
  have hgw : g < W.heap.size := hR.2
  obtain ⟨w1, hw1⟩ : ∃ x, x = W.alloc (.cells #[.bool bg, .int .i64 cl, .bool wr, .string vl, .int .i64 (k : Int), .int .i64 (j : Int)] 42) := ⟨_, rfl⟩
  have hbw : Below W.heap.size W w1 := hw1 ▸ Go.Joins.below_alloc1 _ _
  have H1 : Hid ((Loc W0 lo gc (j * 3) go (k * 10) S0 w1.drew (.slice va sn.length vc) B1 (cpC n i t) (opC x0 x1 x2 x3 (.slice va sn.length vc) b0 b1 b2 x8 x9) sn ∧ ReB w1.drew g W.heap.size ck (.slice (some ⟨gc, 0, none⟩) nc kc) (.slice (some ⟨go, 0, none⟩) no ko) bg cl wr vl (k : Int) (j : Int)) ∧ Below W.heap.size W w1.drew) := ⟨⟨(h.next hbw).next (below_drew _), (⟨(hR.next hbw).next (below_drew _), (hw1 ▸ Bx.new W [_, _, _, _, _, _] _ : Bx w1 _ _).next (below_drew _)⟩ : ReB _ _ _ _ _ _ _ _ _ _ _ _)⟩, below_next hbw (below_drew _)⟩
  have HWB : Hid (∀ z, B1 z → z ≠ W.heap.size) := fun z hz => Nat.ne_of_lt (h.2.2.2.1 z hz).2.2.1
  have hcw : gc ≠ W.heap.size := Nat.ne_of_lt h.lt1
  have how : go ≠ W.heap.size := Nat.ne_of_lt h.lt2
  have HG := Hid.intro hg3
  have HA := Hid.intro (And.intro hC (And.intro hB hE))
  have HS := Hid.intro hsr
  have HT := Hid.intro (And.intro ht (And.intro h2s (And.intro hb2 (And.intro hb0 hn0))))
  have HSP : Hid (List.Pairwise (fun a b : Int => a ≤ b) sn) := Hid.intro ((risP_pair hsr).imp (fun q => by omega))
  have hjI : (j : Int) < (nc : Int) := by omega
  have hkI : (k : Int) < (no : Int) := by omega
  have ew1 : IntKind.i64.wrap ((nc : Int) - 1) = (nc : Int) - 1 := w64 (by omega) (by omega)
  have ew2 : IntKind.i64.wrap ((no : Int) - 1) = (no : Int) - 1 := w64 (by omega) (by omega)
  have HC : Hid (inR (k : Int) 0 ((no : Int) - 1) = true) := Hid.intro (inR_iff.2 (by omega))
  have HC2 : Hid (inR (j : Int) 0 ((nc : Int) - 1) = true) := Hid.intro (inR_iff.2 (by omega))
  have HDB := Hid.intro (goB_bound hB ⟨hb0, hb2⟩ ⟨hn0, ht⟩)
  have HES := Hid.intro (goE_size hE HDB.out.2 h2s)
  clear h hbw hg3 hC hB hE hsr ht h2s hb2 hb0 hn0 hR
  go_enter Try.func104, Try.ntmps104
  go_upto_region 1 with fail
  rw [← hw1]
  clear hw1
  refine wp_region_noPanic ?_
  refine wp_region_held_drew (S := fun X => (Loc W0 lo gc (j * 3) go (k * 10) S0 X (.slice va sn.length vc) B1 (cpC n i t) (opC x0 x1 x2 x3 (.slice va sn.length vc) b0 b1 b2 x8 x9) sn ∧ ReB X g W.heap.size ck (.slice (some ⟨gc, 0, none⟩) nc kc) (.slice (some ⟨go, 0, none⟩) no ko) bg cl wr vl (k : Int) (j : Int)) ∧ Below W.heap.size W X) (by kernel_rfl) H1.out (fun hHeld => ?_)
  refine take_v (v := ?_) 0 ⟨some 10, Op.fieldAddr 42 (Operand.tmp 3) 4, _, _, _, none⟩ rfl (fun _ _ _ h => h) ?_ hHeld ?_
  rotate_left
  · (intro W _; go_simp <;> (try with_reducible rfl))
  refine take_v (v := ?_) 1 ⟨some 11, Op.load 3 (Operand.tmp 10), _, _, _, none⟩ rfl (fun _ _ _ h => h) ?_ hHeld ?_
  rotate_left
  · (intro W hSW; (have s0 := hSW.1.2.1.cell 0 rfl; have s1 := hSW.1.2.1.cell 1 rfl; have s2 := hSW.1.2.1.cell 2 rfl; have sz := hSW.1.2.1.2; have t0 := hSW.1.2.2.cell 0 rfl; have t1 := hSW.1.2.2.cell 1 rfl; have t2 := hSW.1.2.2.cell 2 rfl; have t3 := hSW.1.2.2.cell 3 rfl; have t4 := hSW.1.2.2.cell 4 rfl; have t5 := hSW.1.2.2.cell 5 rfl; have tz := hSW.1.2.2.2); go_simp <;> (try with_reducible rfl))
  refine take_v (v := ?_) 2 ⟨some 12, Op.move (Operand.tmp 0), _, _, _, none⟩ rfl (fun _ _ _ h => h) ?_ hHeld ?_
  rotate_left
  · (intro W _; go_simp <;> (try with_reducible rfl))
  refine take_v (v := ?_) 3 ⟨some 13, Op.nilCheck (Operand.tmp 12), _, _, _, none⟩ rfl (fun _ _ _ h => h) ?_ hHeld ?_
  rotate_left
  · (intro W _; go_simp <;> (try with_reducible rfl))
  refine take_v (v := ?_) 4 ⟨some 14, Op.fieldAddr 29 (Operand.tmp 13) 2, _, _, _, none⟩ rfl (fun _ _ _ h => h) ?_ hHeld ?_
  rotate_left
  · (intro W _; go_simp <;> (try with_reducible rfl))
  refine take_v (v := ?_) 5 ⟨some 15, Op.load 27 (Operand.tmp 14), _, _, _, none⟩ rfl (fun _ _ _ h => h) ?_ hHeld ?_
  rotate_left
  · (intro W hSW; (have s0 := hSW.1.2.1.cell 0 rfl; have s1 := hSW.1.2.1.cell 1 rfl; have s2 := hSW.1.2.1.cell 2 rfl; have sz := hSW.1.2.1.2; have t0 := hSW.1.2.2.cell 0 rfl; have t1 := hSW.1.2.2.cell 1 rfl; have t2 := hSW.1.2.2.cell 2 rfl; have t3 := hSW.1.2.2.cell 3 rfl; have t4 := hSW.1.2.2.cell 4 rfl; have t5 := hSW.1.2.2.cell 5 rfl; have tz := hSW.1.2.2.2); go_simp <;> (try with_reducible rfl))
  refine take_v (v := ?_) 6 ⟨some 16, Op.call { callee := Callee.builtin Builtin.len, args := #[Operand.tmp 15], argTypes := #[27] }, _, _, _, none⟩ rfl (fun _ _ _ h => h) ?_ hHeld ?_
  rotate_left
  · (intro W _; go_simp <;> (try with_reducible rfl))
  refine take_v (v := ?_) 7 ⟨some 17, Op.binOp BinOp.sub 3 (Operand.tmp 16) (Operand.const (Value.int IntKind.i64 1)) 3, _, _, _, none⟩ rfl (fun _ _ _ h => h) ?_ hHeld ?_
  rotate_left
  · (intro W _; go_simp <;> (try with_reducible rfl))
  refine ready_call 8 ⟨some 18, Op.call { callee := Callee.value (Operand.func 54), args := #[Operand.tmp 11, Operand.const (Value.int IntKind.i64 0), Operand.tmp 17], argTypes := #[3, 3, 3] }, _, _, _, none⟩ (by kernel_rfl) rfl (by kernel_rfl) (fun KC hK => ?_)
  go_wp2_with fail
  refine (HC.out ▸ inRange_any (k : Int) 0 ((no : Int) - 1) _).mono ?_
  rintro r X1 ⟨rfl, hw⟩
  have hw := hw.symm
  subst hw
  clear HC
  refine hK.out _ _ hHeld (fun hHeld => ?_)
  clear hK KC
  refine take_v (v := ?_) 9 ⟨some 19, Op.unOp UnOp.not 4 (Operand.tmp 18), _, _, _, none⟩ rfl (fun _ _ _ h => h) ?_ hHeld ?_
  rotate_left
  · (intro W _; go_simp <;> (try with_reducible rfl))
  refine take_v (v := ?_) 10 ⟨some 20, Op.move (Operand.tmp 19), _, _, _, none⟩ rfl (fun _ _ _ h => h) ?_ hHeld ?_
  rotate_left
  · (intro W _; go_simp <;> (try with_reducible rfl))
  refine take_v (v := ?_) 11 ⟨some 21, Op.fieldAddr 42 (Operand.tmp 3) 5, _, _, _, some (10, false)⟩ rfl (fun _ _ _ h => h) ?_ hHeld ?_
  rotate_left
  · (intro W _; go_simp <;> (try with_reducible rfl))
  refine take_v (v := ?_) 12 ⟨some 22, Op.load 3 (Operand.tmp 21), _, _, _, some (10, false)⟩ rfl (fun _ _ _ h => h) ?_ hHeld ?_
  rotate_left
  · (intro W hSW; (have s0 := hSW.1.2.1.cell 0 rfl; have s1 := hSW.1.2.1.cell 1 rfl; have s2 := hSW.1.2.1.cell 2 rfl; have sz := hSW.1.2.1.2; have t0 := hSW.1.2.2.cell 0 rfl; have t1 := hSW.1.2.2.cell 1 rfl; have t2 := hSW.1.2.2.cell 2 rfl; have t3 := hSW.1.2.2.cell 3 rfl; have t4 := hSW.1.2.2.cell 4 rfl; have t5 := hSW.1.2.2.cell 5 rfl; have tz := hSW.1.2.2.2); go_simp <;> (try with_reducible rfl))
  refine take_v (v := ?_) 13 ⟨some 23, Op.move (Operand.tmp 0), _, _, _, some (10, false)⟩ rfl (fun _ _ _ h => h) ?_ hHeld ?_
  rotate_left
  · (intro W _; go_simp <;> (try with_reducible rfl))
  refine take_v (v := ?_) 14 ⟨some 24, Op.nilCheck (Operand.tmp 23), _, _, _, some (10, false)⟩ rfl (fun _ _ _ h => h) ?_ hHeld ?_
  rotate_left
  · (intro W _; go_simp <;> (try with_reducible rfl))
  refine take_v (v := ?_) 15 ⟨some 25, Op.fieldAddr 29 (Operand.tmp 24) 1, _, _, _, some (10, false)⟩ rfl (fun _ _ _ h => h) ?_ hHeld ?_
  rotate_left
  · (intro W _; go_simp <;> (try with_reducible rfl))
  refine take_v (v := ?_) 16 ⟨some 26, Op.load 26 (Operand.tmp 25), _, _, _, some (10, false)⟩ rfl (fun _ _ _ h => h) ?_ hHeld ?_
  rotate_left
  · (intro W hSW; (have s0 := hSW.1.2.1.cell 0 rfl; have s1 := hSW.1.2.1.cell 1 rfl; have s2 := hSW.1.2.1.cell 2 rfl; have sz := hSW.1.2.1.2; have t0 := hSW.1.2.2.cell 0 rfl; have t1 := hSW.1.2.2.cell 1 rfl; have t2 := hSW.1.2.2.cell 2 rfl; have t3 := hSW.1.2.2.cell 3 rfl; have t4 := hSW.1.2.2.cell 4 rfl; have t5 := hSW.1.2.2.cell 5 rfl; have tz := hSW.1.2.2.2); go_simp <;> (try with_reducible rfl))
  refine take_v (v := ?_) 17 ⟨some 27, Op.call { callee := Callee.builtin Builtin.len, args := #[Operand.tmp 26], argTypes := #[26] }, _, _, _, some (10, false)⟩ rfl (fun _ _ _ h => h) ?_ hHeld ?_
  rotate_left
  · (intro W _; go_simp <;> (try with_reducible rfl))
  refine take_v (v := ?_) 18 ⟨some 28, Op.binOp BinOp.sub 3 (Operand.tmp 27) (Operand.const (Value.int IntKind.i64 1)) 3, _, _, _, some (10, false)⟩ rfl (fun _ _ _ h => h) ?_ hHeld ?_
  rotate_left
  · (intro W _; go_simp <;> (try with_reducible rfl))
  refine ready_call 19 ⟨some 29, Op.call { callee := Callee.value (Operand.func 54), args := #[Operand.tmp 22, Operand.const (Value.int IntKind.i64 0), Operand.tmp 28], argTypes := #[3, 3, 3] }, _, _, _, some (10, false)⟩ (by kernel_rfl) rfl (by kernel_rfl) (fun KC hK => ?_)
  go_wp2_with fail
  refine (HC2.out ▸ inRange_any (j : Int) 0 ((nc : Int) - 1) _).mono ?_
  rintro r X1 ⟨rfl, hw⟩
  have hw := hw.symm
  subst hw
  refine hK.out _ _ hHeld (fun hHeld => ?_)
  clear hK KC
  refine take_v (v := ?_) 20 ⟨some 30, Op.unOp UnOp.not 4 (Operand.tmp 29), _, _, _, some (10, false)⟩ rfl (fun _ _ _ h => h) ?_ hHeld ?_
  rotate_left
  · (intro W _; go_simp <;> (try with_reducible rfl))
  refine take_v (v := ?_) 21 ⟨some 31, Op.pick (Operand.tmp 20) (Operand.const (Value.bool true)) (Operand.tmp 30), _, _, _, none⟩ rfl (fun _ _ _ h => h) ?_ hHeld ?_
  rotate_left
  · (intro W _; go_simp <;> (try with_reducible rfl))
  refine wpAnyH_done (by kernel_rfl) ?_ _
  refine NoPanic.normal ?_
  have H2 : Hid ((Loc W0 lo gc (j * 3) go (k * 10) S0 w1.drew.drew (.slice va sn.length vc) B1 (cpC n i t) (opC x0 x1 x2 x3 (.slice va sn.length vc) b0 b1 b2 x8 x9) sn ∧ ReB w1.drew.drew g W.heap.size ck (.slice (some ⟨gc, 0, none⟩) nc kc) (.slice (some ⟨go, 0, none⟩) no ko) bg cl wr vl (k : Int) (j : Int)) ∧ Below W.heap.size W w1.drew.drew) := ⟨⟨hHeld.1.1.next (below_drew _), hHeld.1.2.next (below_drew _)⟩, below_next hHeld.2 (below_drew _)⟩
  clear H1 HC2 hHeld
  go_upto_region 3 with fail
  refine wp_region_noPanic ?_
  refine wp_region_held_drew (S := fun X => (Loc W0 lo gc (j * 3) go (k * 10) S0 X (.slice va sn.length vc) B1 (cpC n i t) (opC x0 x1 x2 x3 (.slice va sn.length vc) b0 b1 b2 x8 x9) sn ∧ ReB X g W.heap.size ck (.slice (some ⟨gc, 0, none⟩) nc kc) (.slice (some ⟨go, 0, none⟩) no ko) bg cl wr vl (k : Int) (j : Int)) ∧ Below W.heap.size W X) (by kernel_rfl) H2.out (fun hHeld => ?_)
  refine take_v (v := ?_) 0 ⟨some 32, Op.move (Operand.tmp 0), _, _, _, none⟩ rfl (fun _ _ _ h => h) ?_ hHeld ?_
  rotate_left
  · (intro W _; go_simp <;> (try with_reducible rfl))
  refine take_v (v := ?_) 1 ⟨some 33, Op.nilCheck (Operand.tmp 32), _, _, _, none⟩ rfl (fun _ _ _ h => h) ?_ hHeld ?_
  rotate_left
  · (intro W _; go_simp <;> (try with_reducible rfl))
  refine take_v (v := ?_) 2 ⟨some 34, Op.fieldAddr 29 (Operand.tmp 33) 2, _, _, _, none⟩ rfl (fun _ _ _ h => h) ?_ hHeld ?_
  rotate_left
  · (intro W _; go_simp <;> (try with_reducible rfl))
  refine take_v (v := ?_) 3 ⟨some 35, Op.load 27 (Operand.tmp 34), _, _, _, none⟩ rfl (fun _ _ _ h => h) ?_ hHeld ?_
  rotate_left
  · (intro W hSW; (have s0 := hSW.1.2.1.cell 0 rfl; have s1 := hSW.1.2.1.cell 1 rfl; have s2 := hSW.1.2.1.cell 2 rfl; have sz := hSW.1.2.1.2; have t0 := hSW.1.2.2.cell 0 rfl; have t1 := hSW.1.2.2.cell 1 rfl; have t2 := hSW.1.2.2.cell 2 rfl; have t3 := hSW.1.2.2.cell 3 rfl; have t4 := hSW.1.2.2.cell 4 rfl; have t5 := hSW.1.2.2.cell 5 rfl; have tz := hSW.1.2.2.2); go_simp <;> (try with_reducible rfl))
  refine take_v (v := ?_) 4 ⟨some 36, Op.fieldAddr 42 (Operand.tmp 3) 4, _, _, _, none⟩ rfl (fun _ _ _ h => h) ?_ hHeld ?_
  rotate_left
  · (intro W _; go_simp <;> (try with_reducible rfl))
  refine take_v (v := ?_) 5 ⟨some 37, Op.load 3 (Operand.tmp 36), _, _, _, none⟩ rfl (fun _ _ _ h => h) ?_ hHeld ?_
  rotate_left
  · (intro W hSW; (have s0 := hSW.1.2.1.cell 0 rfl; have s1 := hSW.1.2.1.cell 1 rfl; have s2 := hSW.1.2.1.cell 2 rfl; have sz := hSW.1.2.1.2; have t0 := hSW.1.2.2.cell 0 rfl; have t1 := hSW.1.2.2.cell 1 rfl; have t2 := hSW.1.2.2.cell 2 rfl; have t3 := hSW.1.2.2.cell 3 rfl; have t4 := hSW.1.2.2.cell 4 rfl; have t5 := hSW.1.2.2.cell 5 rfl; have tz := hSW.1.2.2.2); go_simp <;> (try with_reducible rfl))
  refine take_v (v := ?_) 6 ⟨some 38, Op.indexAddr 27 (Operand.tmp 35) (Operand.tmp 37), _, _, _, none⟩ rfl (fun _ _ _ h => h) ?_ hHeld ?_
  rotate_left
  · (intro W _; go_simp <;> (try with_reducible rfl))
  refine take_v (v := ?_) 7 ⟨some 5, Op.assign (Operand.tmp 38), _, _, _, none⟩ rfl (fun _ _ _ h => h) ?_ hHeld ?_
  rotate_left
  · (intro W _; go_simp <;> (try with_reducible rfl))
  refine wpAnyH_done (by kernel_rfl) ?_ _
  refine NoPanic.normal ?_
  have H3 : Hid ((Loc W0 lo gc (j * 3) go (k * 10) S0 w1.drew.drew.drew (.slice va sn.length vc) B1 (cpC n i t) (opC x0 x1 x2 x3 (.slice va sn.length vc) b0 b1 b2 x8 x9) sn ∧ ReB w1.drew.drew.drew g W.heap.size ck (.slice (some ⟨gc, 0, none⟩) nc kc) (.slice (some ⟨go, 0, none⟩) no ko) bg cl wr vl (k : Int) (j : Int)) ∧ Below W.heap.size W w1.drew.drew.drew) := ⟨⟨hHeld.1.1.next (below_drew _), hHeld.1.2.next (below_drew _)⟩, below_next hHeld.2 (below_drew _)⟩
  clear H2 hHeld
  go_upto_region 4 with fail
  refine wp_region_noPanic ?_
  refine wp_region_held_drew (S := fun X => (Loc W0 lo gc (j * 3) go (k * 10) S0 X (.slice va sn.length vc) B1 (cpC n i t) (opC x0 x1 x2 x3 (.slice va sn.length vc) b0 b1 b2 x8 x9) sn ∧ ReB X g W.heap.size ck (.slice (some ⟨gc, 0, none⟩) nc kc) (.slice (some ⟨go, 0, none⟩) no ko) bg cl wr vl (k : Int) (j : Int)) ∧ Below W.heap.size W X) (by kernel_rfl) H3.out (fun hHeld => ?_)
  refine take_v (v := ?_) 0 ⟨some 40, Op.move (Operand.tmp 5), _, _, _, none⟩ rfl (fun _ _ _ h => h) ?_ hHeld ?_
  rotate_left
  · (intro W _; go_simp <;> (try with_reducible rfl))
  refine take_v (v := ?_) 1 ⟨some 41, Op.nilCheck (Operand.tmp 40), _, _, _, none⟩ rfl (fun _ _ _ h => h) ?_ hHeld ?_
  rotate_left
  · (intro W _; go_simp <;> (try with_reducible rfl))
  refine take_v (v := ?_) 2 ⟨some 42, Op.fieldAddr 53 (Operand.tmp 41) 4, _, _, _, none⟩ rfl (fun _ _ _ h => h) ?_ hHeld ?_
  rotate_left
  · (intro W _; go_simp <;> (try with_reducible rfl))
  refine take_v (v := ?_) 3 ⟨some 43, Op.load 51 (Operand.tmp 42), _, _, _, none⟩ rfl (fun _ _ _ h => h) ?_ hHeld ?_
  rotate_left
  · (intro W hSW; (have s0 := hSW.1.2.1.cell 0 rfl; have s1 := hSW.1.2.1.cell 1 rfl; have s2 := hSW.1.2.1.cell 2 rfl; have sz := hSW.1.2.1.2; have t0 := hSW.1.2.2.cell 0 rfl; have t1 := hSW.1.2.2.cell 1 rfl; have t2 := hSW.1.2.2.cell 2 rfl; have t3 := hSW.1.2.2.cell 3 rfl; have t4 := hSW.1.2.2.cell 4 rfl; have t5 := hSW.1.2.2.cell 5 rfl; have tz := hSW.1.2.2.2; have o3 := hSW.1.1.cO 3 rfl; have o4 := hSW.1.1.cO 4 rfl; have o5 := hSW.1.1.cO 5 rfl; have o6 := hSW.1.1.cO 6 rfl; have o7 := hSW.1.1.cO 7 rfl; have oz := hSW.1.1.lt2); go_simp <;> (try with_reducible rfl))
  refine take_v (v := ?_) 4 ⟨some 44, Op.fieldAddr 42 (Operand.tmp 3) 5, _, _, _, none⟩ rfl (fun _ _ _ h => h) ?_ hHeld ?_
  rotate_left
  · (intro W _; go_simp <;> (try with_reducible rfl))
  refine take_v (v := ?_) 5 ⟨some 45, Op.load 3 (Operand.tmp 44), _, _, _, none⟩ rfl (fun _ _ _ h => h) ?_ hHeld ?_
  rotate_left
  · (intro W hSW; (have s0 := hSW.1.2.1.cell 0 rfl; have s1 := hSW.1.2.1.cell 1 rfl; have s2 := hSW.1.2.1.cell 2 rfl; have sz := hSW.1.2.1.2; have t0 := hSW.1.2.2.cell 0 rfl; have t1 := hSW.1.2.2.cell 1 rfl; have t2 := hSW.1.2.2.cell 2 rfl; have t3 := hSW.1.2.2.cell 3 rfl; have t4 := hSW.1.2.2.cell 4 rfl; have t5 := hSW.1.2.2.cell 5 rfl; have tz := hSW.1.2.2.2; have o3 := hSW.1.1.cO 3 rfl; have o4 := hSW.1.1.cO 4 rfl; have o5 := hSW.1.1.cO 5 rfl; have o6 := hSW.1.1.cO 6 rfl; have o7 := hSW.1.1.cO 7 rfl; have oz := hSW.1.1.lt2); go_simp <;> (try with_reducible rfl))
  refine ready_call 6 ⟨some 46, Op.call { callee := Callee.value (Operand.func 120), args := #[Operand.tmp 43, Operand.tmp 45], argTypes := #[51, 3] }, _, _, _, none⟩ (by kernel_rfl) rfl (by kernel_rfl) (fun KC hK => ?_)
  go_wp2_with fail
  refine (HZE.out ▸ searchInt_c va vc sn (j : Int) _ (by omega) HSP.out (H3.out.1.1.2.2.1.lies)).mono ?_
  rintro r X3 ⟨rfl, hb⟩
  have H4 : Hid ((Loc W0 lo gc (j * 3) go (k * 10) S0 X3 (.slice va sn.length vc) B1 (cpC n i t) (opC x0 x1 x2 x3 (.slice va sn.length vc) b0 b1 b2 x8 x9) sn ∧ ReB X3 g W.heap.size ck (.slice (some ⟨gc, 0, none⟩) nc kc) (.slice (some ⟨go, 0, none⟩) no ko) bg cl wr vl (k : Int) (j : Int)) ∧ Below W.heap.size W X3) := ⟨⟨H3.out.1.1.next hb, H3.out.1.2.next hb⟩, below_next H3.out.2 hb⟩
  clear hb
  refine hK.out _ _ H4.out (fun hHeld => ?_)
  clear hK KC
  refine take_v (v := ?_) 7 ⟨some 39, Op.move (Operand.tmp 46), _, _, _, none⟩ rfl (fun _ _ _ h => h) ?_ hHeld ?_
  rotate_left
  · (intro W _; go_simp <;> (try with_reducible rfl))
  refine take_v (v := ?_) 8 ⟨some 47, Op.extract (Operand.tmp 39) 0, _, _, _, none⟩ rfl (fun _ _ _ h => h) ?_ hHeld ?_
  rotate_left
  · (intro W _; go_simp <;> (try with_reducible rfl))
  refine take_v (v := ?_) 9 ⟨some 48, Op.extract (Operand.tmp 39) 1, _, _, _, none⟩ rfl (fun _ _ _ h => h) ?_ hHeld ?_
  rotate_left
  · (intro W _; go_simp <;> (try with_reducible rfl))
  refine take_v (v := ?_) 10 ⟨some 6, Op.assign (Operand.tmp 47), _, _, _, none⟩ rfl (fun _ _ _ h => h) ?_ hHeld ?_
  rotate_left
  · (intro W _; go_simp <;> (try with_reducible rfl))
  refine take_v (v := ?_) 11 ⟨some 7, Op.assign (Operand.tmp 48), _, _, _, none⟩ rfl (fun _ _ _ h => h) ?_ hHeld ?_
  rotate_left
  · (intro W _; go_simp <;> (try with_reducible rfl))
  refine wpAnyH_done (by kernel_rfl) ?_ _
  refine NoPanic.normal ?_
  clear hHeld H3
  have hcl := cntI_le sn (j : Int)
  obtain ⟨cI, hcI⟩ : ∃ c, c = cntI sn (j : Int) := ⟨_, rfl⟩
  have HCI : Hid (cI = cntI sn (j : Int)) := hcI
  rw [show List.countP (fun a : Int => decide (a < (j : Int))) sn = cI from hcI.symm]
  rw [← hcI] at hcl
  clear hcI
  have o3 : X3.cell? ⟨go, k * 10 + 3, none⟩ = some (.int .i64 x3) := H4.out.1.1.cO 3 rfl
  have oz := H4.out.1.1.lt2
  by_cases c3 : x3 = 3
  · subst c3
    go_wp2
    go_ret
    exact GoR.no (fun q => by rw [HOK.out] at q; exact q.1 rfl) H4.out.2
  have c3' : (x3 == 3) = false := by simpa using c3
  cases z with
  | true =>
    have HIN : Hid ((j : Int) ∈ sn) := Hid.intro (HZ.out.1 rfl)
    clear HZ
    go_wp2
    go_ret
    exact GoR.no (fun q => by rw [HOK.out] at q; exact q.2 HIN.out) H4.out.2
  | false =>
  have hns : (j : Int) ∉ sn := fun q => by have := HZ.out.2 q; cases this
  have HNS := Hid.intro (And.intro c3 hns)
  have h12 : x3 = 1 ∨ x3 = 2 := by omega
  go_upto_region 7 with fail
  clear o3 oz hns HZ
  have H5 : Hid (Loc W0 lo gc (j * 3) go (k * 10) S0 X3.drew (.slice va sn.length vc) B1 (cpC n i t) (opC x0 x1 x2 x3 (.slice va sn.length vc) b0 b1 b2 x8 x9) sn ∧ ReB X3.drew g W.heap.size ck (.slice (some ⟨gc, 0, none⟩) nc kc) (.slice (some ⟨go, 0, none⟩) no ko) bg cl wr vl (k : Int) (j : Int)) := ⟨H4.out.1.1.next (below_drew _), H4.out.1.2.next (below_drew _)⟩
  clear H4
  refine wp_region_noPanic ?_
  refine wp_region_held_drew (S := fun X => ReB X g W.heap.size ck (.slice (some ⟨gc, 0, none⟩) nc kc) (.slice (some ⟨go, 0, none⟩) no ko) bg cl wr vl (k : Int) (j : Int)) (by kernel_rfl) H5.out.2 (fun hHeld => ?_)
  refine take_v (v := ?_) 0 ⟨some 57, Op.move (Operand.tmp 5), _, _, _, none⟩ rfl (fun _ _ _ h => h) ?_ hHeld ?_
  rotate_left
  · (intro W _; go_simp <;> (try with_reducible rfl))
  refine take_v (v := ?_) 1 ⟨some 58, Op.move (Operand.tmp 0), _, _, _, none⟩ rfl (fun _ _ _ h => h) ?_ hHeld ?_
  rotate_left
  · (intro W _; go_simp <;> (try with_reducible rfl))
  refine take_v (v := ?_) 2 ⟨some 59, Op.nilCheck (Operand.tmp 58), _, _, _, none⟩ rfl (fun _ _ _ h => h) ?_ hHeld ?_
  rotate_left
  · (intro W _; go_simp <;> (try with_reducible rfl))
  refine take_v (v := ?_) 3 ⟨some 60, Op.fieldAddr 29 (Operand.tmp 59) 1, _, _, _, none⟩ rfl (fun _ _ _ h => h) ?_ hHeld ?_
  rotate_left
  · (intro W _; go_simp <;> (try with_reducible rfl))
  refine take_v (v := ?_) 4 ⟨some 61, Op.load 26 (Operand.tmp 60), _, _, _, none⟩ rfl (fun _ _ _ h => h) ?_ hHeld ?_
  rotate_left
  · (intro W hSW; (have s0 := hSW.1.cell 0 rfl; have s1 := hSW.1.cell 1 rfl; have s2 := hSW.1.cell 2 rfl; have sz := hSW.1.2; have t0 := hSW.2.cell 0 rfl; have t1 := hSW.2.cell 1 rfl; have t2 := hSW.2.cell 2 rfl; have t3 := hSW.2.cell 3 rfl; have t4 := hSW.2.cell 4 rfl; have t5 := hSW.2.cell 5 rfl; have tz := hSW.2.2); go_simp <;> (try with_reducible rfl))
  refine take_v (v := ?_) 5 ⟨some 62, Op.fieldAddr 42 (Operand.tmp 3) 5, _, _, _, none⟩ rfl (fun _ _ _ h => h) ?_ hHeld ?_
  rotate_left
  · (intro W _; go_simp <;> (try with_reducible rfl))
  refine take_v (v := ?_) 6 ⟨some 63, Op.load 3 (Operand.tmp 62), _, _, _, none⟩ rfl (fun _ _ _ h => h) ?_ hHeld ?_
  rotate_left
  · (intro W hSW; (have s0 := hSW.1.cell 0 rfl; have s1 := hSW.1.cell 1 rfl; have s2 := hSW.1.cell 2 rfl; have sz := hSW.1.2; have t0 := hSW.2.cell 0 rfl; have t1 := hSW.2.cell 1 rfl; have t2 := hSW.2.cell 2 rfl; have t3 := hSW.2.cell 3 rfl; have t4 := hSW.2.cell 4 rfl; have t5 := hSW.2.cell 5 rfl; have tz := hSW.2.2); go_simp <;> (try with_reducible rfl))
  refine take_v (v := ?_) 7 ⟨some 64, Op.indexAddr 26 (Operand.tmp 61) (Operand.tmp 63), _, _, _, none⟩ rfl (fun _ _ _ h => h) ?_ hHeld ?_
  rotate_left
  · (intro W _; go_simp <;> (try with_reducible rfl))
  refine take_v (v := ?_) 8 ⟨some 65, Op.build 155 #[(0, Operand.tmp 64)], _, _, _, none⟩ rfl (fun _ _ _ h => h) ?_ hHeld ?_
  rotate_left
  · (intro W _; go_simp <;> (try with_reducible rfl))
  refine take_v (v := ?_) 9 ⟨some 66, Op.makeInterface 155 (Operand.tmp 65), _, _, _, none⟩ rfl (fun _ _ _ h => h) ?_ hHeld ?_
  rotate_left
  · (intro W _; go_simp <;> (try with_reducible rfl))
  refine ready_call 10 ⟨some 67, Op.call { callee := Callee.value (Operand.func 121), args := #[Operand.tmp 57, Operand.tmp 66], argTypes := #[149, 170] }, _, _, _, none⟩ (by kernel_rfl) rfl (by kernel_rfl) (fun KC hK => ?_)
  go_wp2_with fail
  refine (meet_c _ _ lo gc (j * 3) go (k * 10) _ _ B1 n i t x0 x1 x2 x3 b0 b1 b2 x8 x9 sn n' i' t' d0 d1 d2 h12 (by have := HT.out.1; omega) (by have := HT.out.2.2.1; omega) HA.out.1 HA.out.2.1 H5.out.1.rebase).mono ?_
  rintro r X5 ⟨rfl, hL⟩
  have H6 : Hid (Loc W0 lo gc (j * 3) go (k * 10) S0 X5 (.slice va sn.length vc) B1 (cpC n' i' t') (opC x0 x1 x2 x3 (.slice va sn.length vc) d0 d1 d2 x8 x9) sn ∧ ReB X5 g W.heap.size ck (.slice (some ⟨gc, 0, none⟩) nc kc) (.slice (some ⟨go, 0, none⟩) no ko) bg cl wr vl (k : Int) (j : Int)) := ⟨H5.out.1.join hL rfl rfl, (hL.away H5.out.2.1 hg1 hg2 HG.out).1, (hL.away H5.out.2.2 (Ne.symm hcw) (Ne.symm how) HWB.out).1⟩
  clear hL
  refine hK.out _ _ H6.out.2 (fun hHeld => ?_)
  clear hK KC
  refine wpAnyH_done (by kernel_rfl) ?_ _
  refine NoPanic.normal ?_
  clear hHeld H5
  have H7 : Hid (Loc W0 lo gc (j * 3) go (k * 10) S0 X5.drew (.slice va sn.length vc) B1 (cpC n' i' t') (opC x0 x1 x2 x3 (.slice va sn.length vc) d0 d1 d2 x8 x9) sn ∧ ReB X5.drew g W.heap.size ck (.slice (some ⟨gc, 0, none⟩) nc kc) (.slice (some ⟨go, 0, none⟩) no ko) bg cl wr vl (k : Int) (j : Int)) := ⟨H6.out.1.next (below_drew _), H6.out.2.next (below_drew _)⟩
  clear H6
  go_upto_region 8 with fail
  refine wp_region_noPanic ?_
  refine wp_region_held_drew (S := fun X => ReB X g W.heap.size ck (.slice (some ⟨gc, 0, none⟩) nc kc) (.slice (some ⟨go, 0, none⟩) no ko) bg cl wr vl (k : Int) (j : Int)) (by kernel_rfl) H7.out.2 (fun hHeld => ?_)
  obtain ⟨X6, hX6⟩ : ∃ x, x = X5.drew := ⟨_, rfl⟩
  rw [← hX6] at H7 hHeld ⊢
  clear hX6
  refine take_v (v := ?_) 0 ⟨some 68, Op.move (Operand.tmp 5), _, _, _, none⟩ rfl (fun _ _ _ h => h) ?_ hHeld ?_
  rotate_left
  · (intro W _; go_simp <;> (try with_reducible rfl))
  refine take_v (v := ?_) 1 ⟨some 69, Op.move (Operand.tmp 5), _, _, _, none⟩ rfl (fun _ _ _ h => h) ?_ hHeld ?_
  rotate_left
  · (intro W _; go_simp <;> (try with_reducible rfl))
  refine take_v (v := ?_) 2 ⟨some 70, Op.nilCheck (Operand.tmp 69), _, _, _, none⟩ rfl (fun _ _ _ h => h) ?_ hHeld ?_
  rotate_left
  · (intro W _; go_simp <;> (try with_reducible rfl))
  refine take_v (v := ?_) 3 ⟨some 71, Op.fieldAddr 53 (Operand.tmp 70) 4, _, _, _, none⟩ rfl (fun _ _ _ h => h) ?_ hHeld ?_
  rotate_left
  · (intro W _; go_simp <;> (try with_reducible rfl))
  refine take_v (v := ?_) 5 ⟨some 73, Op.move (Operand.tmp 6), _, _, _, none⟩ rfl (fun _ _ _ h => h) ?_ hHeld ?_
  rotate_left
  · (intro W _; go_simp <;> (try with_reducible rfl))
  refine take_v (v := ?_) 6 ⟨some 74, Op.fieldAddr 42 (Operand.tmp 3) 5, _, _, _, none⟩ rfl (fun _ _ _ h => h) ?_ hHeld ?_
  rotate_left
  · (intro W _; go_simp <;> (try with_reducible rfl))
  refine take_v (v := ?_) 7 ⟨some 75, Op.load 3 (Operand.tmp 74), _, _, _, none⟩ rfl (fun _ _ _ h => h) ?_ hHeld ?_
  rotate_left
  · (intro W hSW; (have s0 := hSW.1.cell 0 rfl; have s1 := hSW.1.cell 1 rfl; have s2 := hSW.1.cell 2 rfl; have sz := hSW.1.2; have t0 := hSW.2.cell 0 rfl; have t1 := hSW.2.cell 1 rfl; have t2 := hSW.2.cell 2 rfl; have t3 := hSW.2.cell 3 rfl; have t4 := hSW.2.cell 4 rfl; have t5 := hSW.2.cell 5 rfl; have tz := hSW.2.2); go_simp <;> (try with_reducible rfl))
  refine ready_two 4 8 ⟨some 72, Op.load 51 (Operand.tmp 71), _, _, _, none⟩ ⟨some 76, Op.buildSlice 51 1 #[(0, Operand.tmp 75)], _, _, _, none⟩ (by kernel_rfl) rfl rfl (by kernel_rfl) (by kernel_rfl) (fun KC hK => ?_) (fun KC hK => ?_)
  ·
    have o4 : X6.cell? ⟨go, k * 10 + 4, none⟩ = some (.slice va sn.length vc) := H7.out.1.cO 4 rfl
    have oz := H7.out.1.lt2
    go_wp2_with fail
    clear o4 oz
    refine hK.out _ _ hHeld (fun hHeld => ?_)
    clear hK KC
    refine ready_call 8 ⟨some 76, Op.buildSlice 51 1 #[(0, Operand.tmp 75)], _, _, _, none⟩ (by kernel_rfl) rfl (by kernel_rfl) (fun KC hK => ?_)
    go_wp2_with fail
    have hb := Go.Joins.below_alloc1 X6 (.cells #[.int .i64 (j : Int)] 3)
    have H8 : Hid (Loc W0 lo gc (j * 3) go (k * 10) S0 (X6.alloc (.cells #[.int .i64 (j : Int)] 3)) (.slice va sn.length vc) B1 (cpC n' i' t') (opC x0 x1 x2 x3 (.slice va sn.length vc) d0 d1 d2 x8 x9) sn ∧ ReB (X6.alloc (.cells #[.int .i64 (j : Int)] 3)) g W.heap.size ck (.slice (some ⟨gc, 0, none⟩) nc kc) (.slice (some ⟨go, 0, none⟩) no ko) bg cl wr vl (k : Int) (j : Int)) := ⟨H7.out.1.next hb, H7.out.2.next hb⟩
    clear hb
    refine hK.out _ _ H8.out.2 (fun hHeld => ?_)
    clear hK KC
    refine ready_call 9 ⟨some 77, Op.call { callee := Callee.value (Operand.func 122), args := #[Operand.tmp 72, Operand.tmp 73, Operand.tmp 76], argTypes := #[51, 3, 51] }, _, _, _, none⟩ (by kernel_rfl) rfl (by kernel_rfl) (fun KC hK => ?_)
    go_wp2_with fail
    refine (insert_I lo sn.length cI X6.heap.size (.slice va sn.length vc) (inC sn) [.int .i64 (j : Int)] 3 _ hcl (by omega) (H8.out.1.2.2.1.flat rfl).1 (flat_one (s := .int) sn) (heap_alloc_new X6 _) rfl (by intro u hu; simp at hu; subst hu; rfl) (by have h1 := H8.out.1.2.2.2.2.2.2.2.2; have h2 := H8.out.1.2.2.2.2.2.2.2.1.size; exact Nat.le_trans h1 h2) (fun e => by have := ((H7.out.1.2.2.1.flat rfl).1.lt _ e).2; omega)).mono ?_
    rintro r X7 ⟨v5, rfl, ho, hgr, hwh⟩
    have HF := Hid.intro (Loc.list (l' := insI sn (j : Int)) H8.out.1 (by rw [insI_len, ← insI_cells, ← HCI.out]; exact ho) hgr hwh)
    have hown : ∀ z, (Value.slice va sn.length vc).ownBlock = some z → B1 z := (H8.out.1.2.2.1.flat rfl).2
    have HR7 : Hid (ReB X7 g W.heap.size ck (.slice (some ⟨gc, 0, none⟩) nc kc) (.slice (some ⟨go, 0, none⟩) no ko) bg cl wr vl (k : Int) (j : Int)) := ⟨H8.out.2.1.grow hgr (fun e => HG.out _ (hown _ e.symm) rfl), H8.out.2.2.grow hgr (fun e => HWB.out _ (hown _ e.symm) rfl)⟩
    have H5b : Hid (∀ z, v5.ownBlock = some z → z ≠ g ∧ z ≠ W.heap.size) := Hid.intro (fun z hz => by rcases hwh with q | q; (· have hb := hown z (q ▸ hz); exact ⟨HG.out z hb, HWB.out z hb⟩); (· rw [q] at hz; cases hz; have h1 := H8.out.2.1.2; have h2 := H8.out.2.2.2; exact ⟨by omega, by omega⟩))
    obtain ⟨a5, k5, hv5⟩ := HF.out.2.2.1.vform
    have hv5 : v5 = .slice a5 (List.length (α := Sh.T .int) (insI sn (j : Int))) k5 := hv5
    subst hv5
    clear ho hgr hwh hown
    refine hK.out _ _ HR7.out (fun hHeld => ?_)
    clear hK KC
    refine take_v (v := ?_) 10 ⟨some 78, Op.nilCheck (Operand.tmp 68), _, _, _, none⟩ rfl (fun _ _ _ h => h) ?_ hHeld ?_
    rotate_left
    · (intro W _; go_simp <;> (try with_reducible rfl))
    refine take_v (v := ?_) 11 ⟨some 79, Op.fieldAddr 53 (Operand.tmp 78) 4, _, _, _, none⟩ rfl (fun _ _ _ h => h) ?_ hHeld ?_
    rotate_left
    · (intro W _; go_simp <;> (try with_reducible rfl))
    refine ready_call 12 ⟨none, Op.store 51 (Operand.tmp 79) (Operand.tmp 77), _, _, _, none⟩ (by kernel_rfl) rfl (by kernel_rfl) (fun KC hK => ?_)
    have o4 : X7.cell? ⟨go, k * 10 + 4, none⟩ = some (.slice va sn.length vc) := HF.out.cO 4 rfl
    have g4 := HF.out.2.1.frz (k * 10 + 4)
    have oz := HF.out.lt2
    go_wp2_with fail
    clear o4 g4 oz
    refine hK.out _ _ ⟨hHeld.1.other hg2, hHeld.2.other (Ne.symm how)⟩ (fun hHeld => ?_)
    clear hK KC
    refine wpAnyH_done (by kernel_rfl) ?_ _
    refine NoPanic.normal ?_
    obtain ⟨X8, hX8⟩ : ∃ x, x = X7.setCell ⟨go, k * 10 + 4, none⟩ (.slice a5 (List.length (α := Sh.T .int) (insI sn (j : Int))) k5) := ⟨_, rfl⟩
    have H9 : Hid (Loc W0 lo gc (j * 3) go (k * 10) S0 X8 (.slice a5 (insI sn (j : Int)).length k5) (fun z => (Value.slice a5 (insI sn (j : Int)).length k5).ownBlock = some z) (cpC n' i' t') (opC x0 x1 x2 x3 (.slice a5 (insI sn (j : Int)).length k5) d0 d1 d2 x8 x9) (insI sn (j : Int)) ∧ ReB X8 g W.heap.size ck (.slice (some ⟨gc, 0, none⟩) nc kc) (.slice (some ⟨go, 0, none⟩) no ko) bg cl wr vl (k : Int) (j : Int)) := ⟨hX8 ▸ HF.out.setO (j := 4) (by simp) _, hX8 ▸ hHeld⟩
    rw [← hX8]
    clear hX8 hHeld HF HR7 H8 H7
    have HIM : Hid (imB (atI (insI sn (j : Int))) (insI sn (j : Int)).length (nc : Int) = decide ((nc : Int) < 2 * ((insI sn (j : Int)).length : Int))) := Hid.intro (by
      have hg : grB (atI (insI sn (j : Int))) (insI sn (j : Int)).length (nc : Int) = true := grB_iff.2 ⟨by omega, risP_ins HS.out (by omega) HNS.out.2⟩
      unfold imB; rw [hg]; rfl)
    have hil : (insI sn (j : Int)).length ≤ 13 := by rw [insI_len]; omega
    obtain ⟨IS, hIS⟩ : ∃ IS, IS = insI sn (j : Int) := ⟨_, rfl⟩
    rw [← hIS] at H9 HIM HA hil ⊢
    clear hIS
    obtain ⟨zb, hzb⟩ : ∃ zb : Bool, imB (atI IS) IS.length (nc : Int) = zb := ⟨_, rfl⟩
    have HZB : Hid (imB (atI IS) IS.length (nc : Int) = zb) := hzb
    have HZC : Hid (zb = decide ((nc : Int) < 2 * (IS.length : Int))) := Hid.intro (hzb.symm.trans HIM.out)
    clear hzb HIM
    go_upto_region 9 with fail
    have H10 : Hid (Loc W0 lo gc (j * 3) go (k * 10) S0 X8.drew (.slice a5 IS.length k5) (fun z => (Value.slice a5 IS.length k5).ownBlock = some z) (cpC n' i' t') (opC x0 x1 x2 x3 (.slice a5 IS.length k5) d0 d1 d2 x8 x9) IS ∧ ReB X8.drew g W.heap.size ck (.slice (some ⟨gc, 0, none⟩) nc kc) (.slice (some ⟨go, 0, none⟩) no ko) bg cl wr vl (k : Int) (j : Int)) := ⟨H9.out.1.next (below_drew _), H9.out.2.next (below_drew _)⟩
    clear H9
    refine wp_region_noPanic ?_
    refine wp_region_held_drew (S := fun X => Loc W0 lo gc (j * 3) go (k * 10) S0 X (.slice a5 IS.length k5) (fun z => (Value.slice a5 IS.length k5).ownBlock = some z) (cpC n' i' t') (opC x0 x1 x2 x3 (.slice a5 IS.length k5) d0 d1 d2 x8 x9) IS ∧ ReB X g W.heap.size ck (.slice (some ⟨gc, 0, none⟩) nc kc) (.slice (some ⟨go, 0, none⟩) no ko) bg cl wr vl (k : Int) (j : Int)) (by kernel_rfl) H10.out (fun hHeld => ?_)
    refine take_v (v := ?_) 0 ⟨some 81, Op.move (Operand.tmp 5), _, _, _, none⟩ rfl (fun _ _ _ h => h) ?_ hHeld ?_
    rotate_left
    · (intro W _; go_simp <;> (try with_reducible rfl))
    refine take_v (v := ?_) 1 ⟨some 82, Op.nilCheck (Operand.tmp 81), _, _, _, none⟩ rfl (fun _ _ _ h => h) ?_ hHeld ?_
    rotate_left
    · (intro W _; go_simp <;> (try with_reducible rfl))
    refine take_v (v := ?_) 2 ⟨some 83, Op.fieldAddr 53 (Operand.tmp 82) 4, _, _, _, none⟩ rfl (fun _ _ _ h => h) ?_ hHeld ?_
    rotate_left
    · (intro W _; go_simp <;> (try with_reducible rfl))
    refine take_v (v := ?_) 3 ⟨some 84, Op.load 51 (Operand.tmp 83), _, _, _, none⟩ rfl (fun _ _ _ h => h) ?_ hHeld ?_
    rotate_left
    · (intro W hSW; (have s0 := hSW.2.1.cell 0 rfl; have s1 := hSW.2.1.cell 1 rfl; have s2 := hSW.2.1.cell 2 rfl; have sz := hSW.2.1.2; have t0 := hSW.2.2.cell 0 rfl; have t1 := hSW.2.2.cell 1 rfl; have t2 := hSW.2.2.cell 2 rfl; have t3 := hSW.2.2.cell 3 rfl; have t4 := hSW.2.2.cell 4 rfl; have t5 := hSW.2.2.cell 5 rfl; have tz := hSW.2.2.2; have o3 := hSW.1.cO 3 rfl; have o4 := hSW.1.cO 4 rfl; have o5 := hSW.1.cO 5 rfl; have o6 := hSW.1.cO 6 rfl; have o7 := hSW.1.cO 7 rfl; have oz := hSW.1.lt2); go_simp <;> (try with_reducible rfl))
    refine take_v (v := ?_) 4 ⟨some 85, Op.build 131 #[(0, Operand.tmp 84)], _, _, _, none⟩ rfl (fun _ _ _ h => h) ?_ hHeld ?_
    rotate_left
    · (intro W _; go_simp <;> (try with_reducible rfl))
    refine take_v (v := ?_) 5 ⟨some 86, Op.move (Operand.tmp 0), _, _, _, none⟩ rfl (fun _ _ _ h => h) ?_ hHeld ?_
    rotate_left
    · (intro W _; go_simp <;> (try with_reducible rfl))
    refine take_v (v := ?_) 6 ⟨some 87, Op.nilCheck (Operand.tmp 86), _, _, _, none⟩ rfl (fun _ _ _ h => h) ?_ hHeld ?_
    rotate_left
    · (intro W _; go_simp <;> (try with_reducible rfl))
    refine take_v (v := ?_) 7 ⟨some 88, Op.fieldAddr 29 (Operand.tmp 87) 1, _, _, _, none⟩ rfl (fun _ _ _ h => h) ?_ hHeld ?_
    rotate_left
    · (intro W _; go_simp <;> (try with_reducible rfl))
    refine take_v (v := ?_) 8 ⟨some 89, Op.load 26 (Operand.tmp 88), _, _, _, none⟩ rfl (fun _ _ _ h => h) ?_ hHeld ?_
    rotate_left
    · (intro W hSW; (have s0 := hSW.2.1.cell 0 rfl; have s1 := hSW.2.1.cell 1 rfl; have s2 := hSW.2.1.cell 2 rfl; have sz := hSW.2.1.2; have t0 := hSW.2.2.cell 0 rfl; have t1 := hSW.2.2.cell 1 rfl; have t2 := hSW.2.2.cell 2 rfl; have t3 := hSW.2.2.cell 3 rfl; have t4 := hSW.2.2.cell 4 rfl; have t5 := hSW.2.2.cell 5 rfl; have tz := hSW.2.2.2; have o3 := hSW.1.cO 3 rfl; have o4 := hSW.1.cO 4 rfl; have o5 := hSW.1.cO 5 rfl; have o6 := hSW.1.cO 6 rfl; have o7 := hSW.1.cO 7 rfl; have oz := hSW.1.lt2); go_simp <;> (try with_reducible rfl))
    refine take_v (v := ?_) 9 ⟨some 90, Op.call { callee := Callee.builtin Builtin.len, args := #[Operand.tmp 89], argTypes := #[26] }, _, _, _, none⟩ rfl (fun _ _ _ h => h) ?_ hHeld ?_
    rotate_left
    · (intro W _; go_simp <;> (try with_reducible rfl))
    refine ready_call 10 ⟨some 91, Op.call { callee := Callee.value (Operand.func 99), args := #[Operand.tmp 85, Operand.tmp 90], argTypes := #[131, 3] }, _, _, _, none⟩ (by kernel_rfl) rfl (by kernel_rfl) (fun KC hK => ?_)
    go_wp2_with fail
    refine (HZB.out ▸ isMajority_any a5 IS.length k5 (atI IS) (nc : Int) _ (by omega) (lies_sl H10.out.1.2.2.1.lies)).mono ?_
    rintro r X9 ⟨rfl, hb⟩
    have H11 : Hid (Loc W0 lo gc (j * 3) go (k * 10) S0 X9 (.slice a5 IS.length k5) (fun z => (Value.slice a5 IS.length k5).ownBlock = some z) (cpC n' i' t') (opC x0 x1 x2 x3 (.slice a5 IS.length k5) d0 d1 d2 x8 x9) IS ∧ ReB X9 g W.heap.size ck (.slice (some ⟨gc, 0, none⟩) nc kc) (.slice (some ⟨go, 0, none⟩) no ko) bg cl wr vl (k : Int) (j : Int)) := ⟨H10.out.1.next hb, H10.out.2.next hb⟩
    clear hb
    refine hK.out _ _ H11.out (fun hHeld => ?_)
    clear hK KC
    refine take_v (v := ?_) 11 ⟨some 80, Op.move (Operand.tmp 91), _, _, _, none⟩ rfl (fun _ _ _ h => h) ?_ hHeld ?_
    rotate_left
    · (intro W _; go_simp <;> (try with_reducible rfl))
    refine take_v (v := ?_) 12 ⟨some 92, Op.extract (Operand.tmp 80) 0, _, _, _, none⟩ rfl (fun _ _ _ h => h) ?_ hHeld ?_
    rotate_left
    · (intro W _; go_simp <;> (try with_reducible rfl))
    refine take_v (v := ?_) 13 ⟨some 93, Op.extract (Operand.tmp 80) 1, _, _, _, none⟩ rfl (fun _ _ _ h => h) ?_ hHeld ?_
    rotate_left
    · (intro W _; go_simp <;> (try with_reducible rfl))
    refine take_v (v := ?_) 14 ⟨some 8, Op.assign (Operand.tmp 92), _, _, _, none⟩ rfl (fun _ _ _ h => h) ?_ hHeld ?_
    rotate_left
    · (intro W _; go_simp <;> (try with_reducible rfl))
    refine take_v (v := ?_) 15 ⟨some 9, Op.assign (Operand.tmp 93), _, _, _, none⟩ rfl (fun _ _ _ h => h) ?_ hHeld ?_
    rotate_left
    · (intro W _; go_simp <;> (try with_reducible rfl))
    refine wpAnyH_done (by kernel_rfl) ?_ _
    refine NoPanic.normal ?_
    clear hHeld H10
    cases zb with
    | false =>
      have hle : 2 * (IS.length : Int) ≤ (nc : Int) := by have := HZC.out; have q : ¬ (nc : Int) < 2 * (IS.length : Int) := of_decide_eq_false this.symm; omega
      obtain ⟨q3, q4, q5, q6, q7, q8⟩ := goE_keep hle HA.out.2.2
      subst q3 q4 q5 q6 q7 q8
      have o5 : X9.cell? ⟨go, k * 10 + 5, none⟩ = some (.int .i64 d0) := H11.out.1.cO 5 rfl
      have o6 : X9.cell? ⟨go, k * 10 + 6, none⟩ = some (.int .i64 d1) := H11.out.1.cO 6 rfl
      have o7 : X9.cell? ⟨go, k * 10 + 7, none⟩ = some (.string d2) := H11.out.1.cO 7 rfl
      have oz := H11.out.1.lt2
      clear HZC HA hle
      go_wp2_with (go_at_call 55; refine (isCopy_n d0 d1 d2 _ (by have := HES.out; unfold maxLen; omega)).mono ?_; rintro r X10 ⟨rfl, hb⟩)
      have HFF := Hid.intro (H11.out.1.next hb)
      clear hb
      go_ret
      exact GoR.yes (by rw [HOK.out]; exact HNS.out) ⟨_, _, HFF.out⟩
    | true =>
      have hgt : ¬ 2 * (IS.length : Int) ≤ (nc : Int) := by have := HZC.out; have q : (nc : Int) < 2 * (IS.length : Int) := of_decide_eq_true this.symm; omega
      have HGT := Hid.intro hgt
      clear HZC hgt
      have s0 := (H11.out.2.1).cell 0 rfl; have s1 := (H11.out.2.1).cell 1 rfl; have s2 := (H11.out.2.1).cell 2 rfl; have sz := (H11.out.2.1).2
      go_wp2_with (first | (go_at_call 123; refine (end_c _ _ lo gc (j * 3) go (k * 10) _ _ _ n' i' t' x0 x1 x2 x3 d0 d1 d2 x8 x9 IS ck nc y3 e0 e1 e2 y9 sE h12 HDB.out.1 (by have := HT.out.2.1; omega) HGT.out HA.out.2.2 H11.out.1.rebase).mono ?_; rintro r X10 ⟨rfl, v6, B6, hL⟩; have H12 := Hid.intro (H11.out.1.join hL rfl rfl); clear hL s0 s1 s2 sz; have o5 : X10.cell? ⟨go, k * 10 + 5, none⟩ = some (.int .i64 e0) := H12.out.cO 5 rfl; have o6 : X10.cell? ⟨go, k * 10 + 6, none⟩ = some (.int .i64 e1) := H12.out.cO 6 rfl; have o7 : X10.cell? ⟨go, k * 10 + 7, none⟩ = some (.string e2) := H12.out.cO 7 rfl; have oz := H12.out.lt2) | (go_at_call 55; refine (isCopy_n e0 e1 e2 _ (by have := HES.out; unfold maxLen; omega)).mono ?_; rintro r X11 ⟨rfl, hb⟩; have HFF := Hid.intro (H12.out.next hb); clear hb))
      go_ret
      exact GoR.yes (by rw [HOK.out]; exact HNS.out) ⟨_, _, HFF.out⟩
  ·
    go_wp2_with fail
    have hb := Go.Joins.below_alloc1 X6 (.cells #[.int .i64 (j : Int)] 3)
    have H8 : Hid (Loc W0 lo gc (j * 3) go (k * 10) S0 (X6.alloc (.cells #[.int .i64 (j : Int)] 3)) (.slice va sn.length vc) B1 (cpC n' i' t') (opC x0 x1 x2 x3 (.slice va sn.length vc) d0 d1 d2 x8 x9) sn ∧ ReB (X6.alloc (.cells #[.int .i64 (j : Int)] 3)) g W.heap.size ck (.slice (some ⟨gc, 0, none⟩) nc kc) (.slice (some ⟨go, 0, none⟩) no ko) bg cl wr vl (k : Int) (j : Int)) := ⟨H7.out.1.next hb, H7.out.2.next hb⟩
    clear hb
    refine hK.out _ _ H8.out.2 (fun hHeld => ?_)
    clear hK KC
    refine ready_call 4 ⟨some 72, Op.load 51 (Operand.tmp 71), _, _, _, none⟩ (by kernel_rfl) rfl (by kernel_rfl) (fun KC hK => ?_)
    have o4 : X6.cell? ⟨go, k * 10 + 4, none⟩ = some (.slice va sn.length vc) := H7.out.1.cO 4 rfl
    have oz := H7.out.1.lt2
    go_wp2_with fail
    clear o4 oz
    refine hK.out _ _ hHeld (fun hHeld => ?_)
    clear hK KC
    refine ready_call 9 ⟨some 77, Op.call { callee := Callee.value (Operand.func 122), args := #[Operand.tmp 72, Operand.tmp 73, Operand.tmp 76], argTypes := #[51, 3, 51] }, _, _, _, none⟩ (by kernel_rfl) rfl (by kernel_rfl) (fun KC hK => ?_)
    go_wp2_with fail
    refine (insert_I lo sn.length cI X6.heap.size (.slice va sn.length vc) (inC sn) [.int .i64 (j : Int)] 3 _ hcl (by omega) (H8.out.1.2.2.1.flat rfl).1 (flat_one (s := .int) sn) (heap_alloc_new X6 _) rfl (by intro u hu; simp at hu; subst hu; rfl) (by have h1 := H8.out.1.2.2.2.2.2.2.2.2; have h2 := H8.out.1.2.2.2.2.2.2.2.1.size; exact Nat.le_trans h1 h2) (fun e => by have := ((H7.out.1.2.2.1.flat rfl).1.lt _ e).2; omega)).mono ?_
    rintro r X7 ⟨v5, rfl, ho, hgr, hwh⟩
    have HF := Hid.intro (Loc.list (l' := insI sn (j : Int)) H8.out.1 (by rw [insI_len, ← insI_cells, ← HCI.out]; exact ho) hgr hwh)
    have hown : ∀ z, (Value.slice va sn.length vc).ownBlock = some z → B1 z := (H8.out.1.2.2.1.flat rfl).2
    have HR7 : Hid (ReB X7 g W.heap.size ck (.slice (some ⟨gc, 0, none⟩) nc kc) (.slice (some ⟨go, 0, none⟩) no ko) bg cl wr vl (k : Int) (j : Int)) := ⟨H8.out.2.1.grow hgr (fun e => HG.out _ (hown _ e.symm) rfl), H8.out.2.2.grow hgr (fun e => HWB.out _ (hown _ e.symm) rfl)⟩
    have H5b : Hid (∀ z, v5.ownBlock = some z → z ≠ g ∧ z ≠ W.heap.size) := Hid.intro (fun z hz => by rcases hwh with q | q; (· have hb := hown z (q ▸ hz); exact ⟨HG.out z hb, HWB.out z hb⟩); (· rw [q] at hz; cases hz; have h1 := H8.out.2.1.2; have h2 := H8.out.2.2.2; exact ⟨by omega, by omega⟩))
    obtain ⟨a5, k5, hv5⟩ := HF.out.2.2.1.vform
    have hv5 : v5 = .slice a5 (List.length (α := Sh.T .int) (insI sn (j : Int))) k5 := hv5
    subst hv5
    clear ho hgr hwh hown
    refine hK.out _ _ HR7.out (fun hHeld => ?_)
    clear hK KC
    refine take_v (v := ?_) 10 ⟨some 78, Op.nilCheck (Operand.tmp 68), _, _, _, none⟩ rfl (fun _ _ _ h => h) ?_ hHeld ?_
    rotate_left
    · (intro W _; go_simp <;> (try with_reducible rfl))
    refine take_v (v := ?_) 11 ⟨some 79, Op.fieldAddr 53 (Operand.tmp 78) 4, _, _, _, none⟩ rfl (fun _ _ _ h => h) ?_ hHeld ?_
    rotate_left
    · (intro W _; go_simp <;> (try with_reducible rfl))
    refine ready_call 12 ⟨none, Op.store 51 (Operand.tmp 79) (Operand.tmp 77), _, _, _, none⟩ (by kernel_rfl) rfl (by kernel_rfl) (fun KC hK => ?_)
    have o4 : X7.cell? ⟨go, k * 10 + 4, none⟩ = some (.slice va sn.length vc) := HF.out.cO 4 rfl
    have g4 := HF.out.2.1.frz (k * 10 + 4)
    have oz := HF.out.lt2
    go_wp2_with fail
    clear o4 g4 oz
    refine hK.out _ _ ⟨hHeld.1.other hg2, hHeld.2.other (Ne.symm how)⟩ (fun hHeld => ?_)
    clear hK KC
    refine wpAnyH_done (by kernel_rfl) ?_ _
    refine NoPanic.normal ?_
    obtain ⟨X8, hX8⟩ : ∃ x, x = X7.setCell ⟨go, k * 10 + 4, none⟩ (.slice a5 (List.length (α := Sh.T .int) (insI sn (j : Int))) k5) := ⟨_, rfl⟩
    have H9 : Hid (Loc W0 lo gc (j * 3) go (k * 10) S0 X8 (.slice a5 (insI sn (j : Int)).length k5) (fun z => (Value.slice a5 (insI sn (j : Int)).length k5).ownBlock = some z) (cpC n' i' t') (opC x0 x1 x2 x3 (.slice a5 (insI sn (j : Int)).length k5) d0 d1 d2 x8 x9) (insI sn (j : Int)) ∧ ReB X8 g W.heap.size ck (.slice (some ⟨gc, 0, none⟩) nc kc) (.slice (some ⟨go, 0, none⟩) no ko) bg cl wr vl (k : Int) (j : Int)) := ⟨hX8 ▸ HF.out.setO (j := 4) (by simp) _, hX8 ▸ hHeld⟩
    rw [← hX8]
    clear hX8 hHeld HF HR7 H8 H7
    have HIM : Hid (imB (atI (insI sn (j : Int))) (insI sn (j : Int)).length (nc : Int) = decide ((nc : Int) < 2 * ((insI sn (j : Int)).length : Int))) := Hid.intro (by
      have hg : grB (atI (insI sn (j : Int))) (insI sn (j : Int)).length (nc : Int) = true := grB_iff.2 ⟨by omega, risP_ins HS.out (by omega) HNS.out.2⟩
      unfold imB; rw [hg]; rfl)
    have hil : (insI sn (j : Int)).length ≤ 13 := by rw [insI_len]; omega
    obtain ⟨IS, hIS⟩ : ∃ IS, IS = insI sn (j : Int) := ⟨_, rfl⟩
    rw [← hIS] at H9 HIM HA hil ⊢
    clear hIS
    obtain ⟨zb, hzb⟩ : ∃ zb : Bool, imB (atI IS) IS.length (nc : Int) = zb := ⟨_, rfl⟩
    have HZB : Hid (imB (atI IS) IS.length (nc : Int) = zb) := hzb
    have HZC : Hid (zb = decide ((nc : Int) < 2 * (IS.length : Int))) := Hid.intro (hzb.symm.trans HIM.out)
    clear hzb HIM
    go_upto_region 9 with fail
    have H10 : Hid (Loc W0 lo gc (j * 3) go (k * 10) S0 X8.drew (.slice a5 IS.length k5) (fun z => (Value.slice a5 IS.length k5).ownBlock = some z) (cpC n' i' t') (opC x0 x1 x2 x3 (.slice a5 IS.length k5) d0 d1 d2 x8 x9) IS ∧ ReB X8.drew g W.heap.size ck (.slice (some ⟨gc, 0, none⟩) nc kc) (.slice (some ⟨go, 0, none⟩) no ko) bg cl wr vl (k : Int) (j : Int)) := ⟨H9.out.1.next (below_drew _), H9.out.2.next (below_drew _)⟩
    clear H9
    refine wp_region_noPanic ?_
    refine wp_region_held_drew (S := fun X => Loc W0 lo gc (j * 3) go (k * 10) S0 X (.slice a5 IS.length k5) (fun z => (Value.slice a5 IS.length k5).ownBlock = some z) (cpC n' i' t') (opC x0 x1 x2 x3 (.slice a5 IS.length k5) d0 d1 d2 x8 x9) IS ∧ ReB X g W.heap.size ck (.slice (some ⟨gc, 0, none⟩) nc kc) (.slice (some ⟨go, 0, none⟩) no ko) bg cl wr vl (k : Int) (j : Int)) (by kernel_rfl) H10.out (fun hHeld => ?_)
    refine take_v (v := ?_) 0 ⟨some 81, Op.move (Operand.tmp 5), _, _, _, none⟩ rfl (fun _ _ _ h => h) ?_ hHeld ?_
    rotate_left
    · (intro W _; go_simp <;> (try with_reducible rfl))
    refine take_v (v := ?_) 1 ⟨some 82, Op.nilCheck (Operand.tmp 81), _, _, _, none⟩ rfl (fun _ _ _ h => h) ?_ hHeld ?_
    rotate_left
    · (intro W _; go_simp <;> (try with_reducible rfl))
    refine take_v (v := ?_) 2 ⟨some 83, Op.fieldAddr 53 (Operand.tmp 82) 4, _, _, _, none⟩ rfl (fun _ _ _ h => h) ?_ hHeld ?_
    rotate_left
    · (intro W _; go_simp <;> (try with_reducible rfl))
    refine take_v (v := ?_) 3 ⟨some 84, Op.load 51 (Operand.tmp 83), _, _, _, none⟩ rfl (fun _ _ _ h => h) ?_ hHeld ?_
    rotate_left
    · (intro W hSW; (have s0 := hSW.2.1.cell 0 rfl; have s1 := hSW.2.1.cell 1 rfl; have s2 := hSW.2.1.cell 2 rfl; have sz := hSW.2.1.2; have t0 := hSW.2.2.cell 0 rfl; have t1 := hSW.2.2.cell 1 rfl; have t2 := hSW.2.2.cell 2 rfl; have t3 := hSW.2.2.cell 3 rfl; have t4 := hSW.2.2.cell 4 rfl; have t5 := hSW.2.2.cell 5 rfl; have tz := hSW.2.2.2; have o3 := hSW.1.cO 3 rfl; have o4 := hSW.1.cO 4 rfl; have o5 := hSW.1.cO 5 rfl; have o6 := hSW.1.cO 6 rfl; have o7 := hSW.1.cO 7 rfl; have oz := hSW.1.lt2); go_simp <;> (try with_reducible rfl))
    refine take_v (v := ?_) 4 ⟨some 85, Op.build 131 #[(0, Operand.tmp 84)], _, _, _, none⟩ rfl (fun _ _ _ h => h) ?_ hHeld ?_
    rotate_left
    · (intro W _; go_simp <;> (try with_reducible rfl))
    refine take_v (v := ?_) 5 ⟨some 86, Op.move (Operand.tmp 0), _, _, _, none⟩ rfl (fun _ _ _ h => h) ?_ hHeld ?_
    rotate_left
    · (intro W _; go_simp <;> (try with_reducible rfl))
    refine take_v (v := ?_) 6 ⟨some 87, Op.nilCheck (Operand.tmp 86), _, _, _, none⟩ rfl (fun _ _ _ h => h) ?_ hHeld ?_
    rotate_left
    · (intro W _; go_simp <;> (try with_reducible rfl))
    refine take_v (v := ?_) 7 ⟨some 88, Op.fieldAddr 29 (Operand.tmp 87) 1, _, _, _, none⟩ rfl (fun _ _ _ h => h) ?_ hHeld ?_
    rotate_left
    · (intro W _; go_simp <;> (try with_reducible rfl))
    refine take_v (v := ?_) 8 ⟨some 89, Op.load 26 (Operand.tmp 88), _, _, _, none⟩ rfl (fun _ _ _ h => h) ?_ hHeld ?_
    rotate_left
    · (intro W hSW; (have s0 := hSW.2.1.cell 0 rfl; have s1 := hSW.2.1.cell 1 rfl; have s2 := hSW.2.1.cell 2 rfl; have sz := hSW.2.1.2; have t0 := hSW.2.2.cell 0 rfl; have t1 := hSW.2.2.cell 1 rfl; have t2 := hSW.2.2.cell 2 rfl; have t3 := hSW.2.2.cell 3 rfl; have t4 := hSW.2.2.cell 4 rfl; have t5 := hSW.2.2.cell 5 rfl; have tz := hSW.2.2.2; have o3 := hSW.1.cO 3 rfl; have o4 := hSW.1.cO 4 rfl; have o5 := hSW.1.cO 5 rfl; have o6 := hSW.1.cO 6 rfl; have o7 := hSW.1.cO 7 rfl; have oz := hSW.1.lt2); go_simp <;> (try with_reducible rfl))
    refine take_v (v := ?_) 9 ⟨some 90, Op.call { callee := Callee.builtin Builtin.len, args := #[Operand.tmp 89], argTypes := #[26] }, _, _, _, none⟩ rfl (fun _ _ _ h => h) ?_ hHeld ?_
    rotate_left
    · (intro W _; go_simp <;> (try with_reducible rfl))
    refine ready_call 10 ⟨some 91, Op.call { callee := Callee.value (Operand.func 99), args := #[Operand.tmp 85, Operand.tmp 90], argTypes := #[131, 3] }, _, _, _, none⟩ (by kernel_rfl) rfl (by kernel_rfl) (fun KC hK => ?_)
    go_wp2_with fail
    refine (HZB.out ▸ isMajority_any a5 IS.length k5 (atI IS) (nc : Int) _ (by omega) (lies_sl H10.out.1.2.2.1.lies)).mono ?_
    rintro r X9 ⟨rfl, hb⟩
    have H11 : Hid (Loc W0 lo gc (j * 3) go (k * 10) S0 X9 (.slice a5 IS.length k5) (fun z => (Value.slice a5 IS.length k5).ownBlock = some z) (cpC n' i' t') (opC x0 x1 x2 x3 (.slice a5 IS.length k5) d0 d1 d2 x8 x9) IS ∧ ReB X9 g W.heap.size ck (.slice (some ⟨gc, 0, none⟩) nc kc) (.slice (some ⟨go, 0, none⟩) no ko) bg cl wr vl (k : Int) (j : Int)) := ⟨H10.out.1.next hb, H10.out.2.next hb⟩
    clear hb
    refine hK.out _ _ H11.out (fun hHeld => ?_)
    clear hK KC
    refine take_v (v := ?_) 11 ⟨some 80, Op.move (Operand.tmp 91), _, _, _, none⟩ rfl (fun _ _ _ h => h) ?_ hHeld ?_
    rotate_left
    · (intro W _; go_simp <;> (try with_reducible rfl))
    refine take_v (v := ?_) 12 ⟨some 92, Op.extract (Operand.tmp 80) 0, _, _, _, none⟩ rfl (fun _ _ _ h => h) ?_ hHeld ?_
    rotate_left
    · (intro W _; go_simp <;> (try with_reducible rfl))
    refine take_v (v := ?_) 13 ⟨some 93, Op.extract (Operand.tmp 80) 1, _, _, _, none⟩ rfl (fun _ _ _ h => h) ?_ hHeld ?_
    rotate_left
    · (intro W _; go_simp <;> (try with_reducible rfl))
    refine take_v (v := ?_) 14 ⟨some 8, Op.assign (Operand.tmp 92), _, _, _, none⟩ rfl (fun _ _ _ h => h) ?_ hHeld ?_
    rotate_left
    · (intro W _; go_simp <;> (try with_reducible rfl))
    refine take_v (v := ?_) 15 ⟨some 9, Op.assign (Operand.tmp 93), _, _, _, none⟩ rfl (fun _ _ _ h => h) ?_ hHeld ?_
    rotate_left
    · (intro W _; go_simp <;> (try with_reducible rfl))
    refine wpAnyH_done (by kernel_rfl) ?_ _
    refine NoPanic.normal ?_
    clear hHeld H10
    cases zb with
    | false =>
      have hle : 2 * (IS.length : Int) ≤ (nc : Int) := by have := HZC.out; have q : ¬ (nc : Int) < 2 * (IS.length : Int) := of_decide_eq_false this.symm; omega
      obtain ⟨q3, q4, q5, q6, q7, q8⟩ := goE_keep hle HA.out.2.2
      subst q3 q4 q5 q6 q7 q8
      have o5 : X9.cell? ⟨go, k * 10 + 5, none⟩ = some (.int .i64 d0) := H11.out.1.cO 5 rfl
      have o6 : X9.cell? ⟨go, k * 10 + 6, none⟩ = some (.int .i64 d1) := H11.out.1.cO 6 rfl
      have o7 : X9.cell? ⟨go, k * 10 + 7, none⟩ = some (.string d2) := H11.out.1.cO 7 rfl
      have oz := H11.out.1.lt2
      clear HZC HA hle
      go_wp2_with (go_at_call 55; refine (isCopy_n d0 d1 d2 _ (by have := HES.out; unfold maxLen; omega)).mono ?_; rintro r X10 ⟨rfl, hb⟩)
      have HFF := Hid.intro (H11.out.1.next hb)
      clear hb
      go_ret
      exact GoR.yes (by rw [HOK.out]; exact HNS.out) ⟨_, _, HFF.out⟩
    | true =>
      have hgt : ¬ 2 * (IS.length : Int) ≤ (nc : Int) := by have := HZC.out; have q : (nc : Int) < 2 * (IS.length : Int) := of_decide_eq_true this.symm; omega
      have HGT := Hid.intro hgt
      clear HZC hgt
      have s0 := (H11.out.2.1).cell 0 rfl; have s1 := (H11.out.2.1).cell 1 rfl; have s2 := (H11.out.2.1).cell 2 rfl; have sz := (H11.out.2.1).2
      go_wp2_with (first | (go_at_call 123; refine (end_c _ _ lo gc (j * 3) go (k * 10) _ _ _ n' i' t' x0 x1 x2 x3 d0 d1 d2 x8 x9 IS ck nc y3 e0 e1 e2 y9 sE h12 HDB.out.1 (by have := HT.out.2.1; omega) HGT.out HA.out.2.2 H11.out.1.rebase).mono ?_; rintro r X10 ⟨rfl, v6, B6, hL⟩; have H12 := Hid.intro (H11.out.1.join hL rfl rfl); clear hL s0 s1 s2 sz; have o5 : X10.cell? ⟨go, k * 10 + 5, none⟩ = some (.int .i64 e0) := H12.out.cO 5 rfl; have o6 : X10.cell? ⟨go, k * 10 + 6, none⟩ = some (.int .i64 e1) := H12.out.cO 6 rfl; have o7 : X10.cell? ⟨go, k * 10 + 7, none⟩ = some (.string e2) := H12.out.cO 7 rfl; have oz := H12.out.lt2) | (go_at_call 55; refine (isCopy_n e0 e1 e2 _ (by have := HES.out; unfold maxLen; omega)).mono ?_; rintro r X11 ⟨rfl, hb⟩; have HFF := Hid.intro (H12.out.next hb); clear hb))
      go_ret
      exact GoR.yes (by rw [HOK.out]; exact HNS.out) ⟨_, _, HFF.out⟩

end Go.Proofs.Ytaofolbnommpgaa
