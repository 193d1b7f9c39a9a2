/- Synods: the program's cloneSynod. Written by tools/mkSyQ.py. -/
import Derived.Test.YtmhkfangfhanlaaSyL
namespace Go.Proofs.Ytmhkfangfhanlaa
open Go.RowKit
set_option linter.unusedVariables false
set_option linter.unusedSimpArgs false

theorem CsS.done {w wr W' : World} {b c : Nat} {va : Value} {la : List (Sh.T shAcceptor)} {vp : Value} {lp : List (Sh.T shProposer)} (h : CsS w b c wr va la vp lp) (hW : TurnS (fun k => k = c) wr W') : OwnX W' w.heap.size tySynod [va, vp] (la, lp, ()) (Btw w.heap.size W'.heap.size) := by
  obtain ⟨h1, h2, h3, ⟨S, h4, h5⟩, h6, h7, h8⟩ := h
  have hs := hW.size
  have q1 := ownsRow_turn h3 hW (fun k hk e => by have := (h3.lt k hk).1; have e : k = c := e; omega)
  have q2 := h4.turn hW (fun k hk e => by have := (h5 k hk).1; have e : k = c := e; omega)
  refine mkownx_Synod (S1 := fun k => va.ownBlock = some k) (S2 := S) ((OwnX.of_flat (e := tyAcceptor) rfl q1 (fun k hk => hk)).lower (by omega)) (q2.lower (by omega)) (fun k hk => ?_) (fun k hk => ?_) (fun k e f => (h5 k f).2.2 e)
  · have := h3.lt k hk; simp only [Btw]; omega
  · have := h5 k hk; simp only [Btw]; omega
def mkPo (o : ByteArray) (l : List (Sh.T shPromise)) (f : Bool) (v : ByteArray) (t : List (Sh.T .int)) : Sh.T shProposer := (o, l, f, v, t, ())
theorem set2 (W : World) (g : Nat) (u0 u1 : Value) : TurnS (fun k => k = g) W ((W.setCell ⟨g, 0, none⟩ u0).setCell ⟨g, 1, none⟩ u1) :=
  ((TurnS.refl (fun k => k = g) W).set (S := fun k => k = g) (p := ⟨g, 0, none⟩) rfl _).set (S := fun k => k = g) (p := ⟨g, 1, none⟩) rfl _

set_option maxRecDepth 100000 in
set_option maxHeartbeats 4000000 in
theorem cloneSynod_n (cs : List Value) (ac : List (Sh.T shAcceptor)) (ps : List (Sh.T shProposer)) (w : World) (hz : szD shSynod (ac, ps, ()) ≤ 1073741824) (h : Lies w shSynod cs (ac, ps, ())) :
    Calls Try.prog 74 #[.agg cs.toArray] w (ToX tySynod (ac, ps, ()) w) := by
  obtain ⟨a1, k1, a2, k2, rfl, h1, h2⟩ := lies_Synod h
  have HL : Hid (Lies w (.list shAcceptor) [.slice a1 ac.length k1] ac ∧ Lies w (.list shProposer) [.slice a2 ps.length k2] ps) := ⟨h1, h2⟩
  have HZ : Hid (szD shSynod (ac, ps, ()) ≤ 1073741824) := hz
  have hna := (syn_sizes hz).2.2.1
  have hnp := (syn_sizes hz).2.2.2
  clear h h1 h2 hz
  obtain ⟨w0, hw0⟩ : ∃ x, x = ((w.alloc (.cells #[.slice a1 ac.length k1, .slice a2 ps.length k2] 30)).alloc (.cells #[.slice none 0 0, .slice none 0 0] 30)).alloc (.cells #[.slice none 0 0, .slice none 0 0] 30) := ⟨_, rfl⟩
  have HI : Hid (CsS w (w.heap.size + 1 + 1) (w.heap.size + 1) w0 (.slice none 0 0) (ac.take 0) (.slice none 0 0) [] ∧ Bx w0 w.heap.size [.slice a1 ac.length k1, .slice a2 ps.length k2]) := by
    have e1 : Bx w0 (w.heap.size + 1 + 1) [.slice none 0 0, .slice none 0 0] := hw0 ▸ Bx.newAt (by simp)
    have e2 : Bx w0 (w.heap.size + 1) [.slice none 0 0, .slice none 0 0] := hw0 ▸ (Bx.newAt (by simp)).alloc _
    have e3 : Bx w0 w.heap.size [.slice a1 ac.length k1, .slice a2 ps.length k2] := hw0 ▸ ((Bx.new w [_, _] _).alloc _).alloc _
    have e4 : Below w.heap.size w w0 := hw0 ▸ (((Below.refl _ _).alloc (Nat.le_refl _) _).alloc (by simp) _).alloc (by simp; omega) _
    exact ⟨⟨e1, e2, World.ownsRow_nil _ _ _ _, ⟨fun _ => False, OwnX.nil', fun k q => q.elim⟩, e4, by omega, by omega⟩, e3⟩
  obtain ⟨j0, hj0, hy0, hy1, hy2⟩ := info_parts inf_Acceptor
  go_enter Try.func74, Try.ntmps74
  go_wp2
  rw [← hw0]
  clear hw0
  go_loopw [11] (fun i wr => ∃ (k : Nat) (va : Value), k ≤ ac.length ∧ i = .int .i64 k ∧ CsS w (w.heap.size + 1 + 1) (w.heap.size + 1) wr va (ac.take k) (.slice none 0 0) [] ∧ Bx wr w.heap.size [.slice a1 ac.length k1, .slice a2 ps.length k2]) (fun i _ => ac.length - (intOf i).toNat)
  case atStart => exact ⟨0, _, Nat.zero_le _, rfl, HI.out⟩
  case round =>
    obtain ⟨k, va, hk, rfl, hC, hbx⟩ := hrel
    clear HI
    by_cases hlt : k < ac.length
    · have hlt' : (k : Int) < (ac.length : Int) := by omega
      have HLE : Hid (Lies wr (.list shAcceptor) [.slice a1 ac.length k1] ac) := HL.out.1.next hC.2.2.2.2.1
      obtain ⟨xg, xoff, xgo, xgs, xec, xel, xhec, xle⟩ := Lies.elem (HLE.out) hlt
      subst xgo
      rcases xX : ac[k] with ⟨x0, x1, x2, ⟨⟩⟩
      rw [xX] at xle
      have xH : Hid (ac[k] = (x0, x1, x2, ())) := xX
      clear xX
      obtain xev := lies_Acceptor xle
      subst xev
      have xc0 : wr.cell? ⟨xg, xoff + k * 3, none⟩ = some (.int .i64 x0) := xhec 0 (by simp)
      have xc1 : wr.cell? ⟨xg, xoff + k * 3 + 1, none⟩ = some (.int .i64 x1) := xhec 1 (by simp)
      have xc2 : wr.cell? ⟨xg, xoff + k * 3 + 2, none⟩ = some (.string x2) := xhec 2 (by simp)
      clear xhec xel xle
      have HV : Hid (x2.size ≤ 281474976710656) := Hid.intro (by
        have := (syn_sizes HZ.out).1 ac[k] (List.getElem_mem hlt)
        rw [xH.out] at this
        have h2 : x2.size ≤ 1073741824 := this
        omega)
      have HPT : Hid (ac.take (k + 1) = ac.take k ++ [mkAc x0 x1 x2]) := Hid.intro (by rw [List.take_succ_eq_append_getElem hlt, xH.out]; rfl)
      have hml : (ac.take k).length ≤ 1073741824 := by rw [List.length_take]; omega
      obtain ⟨M, hM⟩ : ∃ M, M = ac.take k := ⟨_, rfl⟩
      rw [← hM] at hC HPT hml
      obtain ⟨av, cv, hvE⟩ := OwnX.vform (OwnX.of_flat (e := tyAcceptor) (S := fun _ => True) rfl hC.2.2.1 (fun _ _ => trivial))
      subst hvE
      have HC : Hid (CsS w (w.heap.size + 1 + 1) (w.heap.size + 1) wr (.slice av M.length cv) M (.slice none 0 0) [] ∧ Bx wr w.heap.size [.slice (some ⟨xg, xoff, none⟩) ac.length k1, .slice a2 ps.length k2]) := ⟨hC, hbx⟩
      have hbw : w.heap.size + 1 + 1 < wr.heap.size := hC.1.2
      obtain ⟨w1, hw1⟩ : ∃ x, x = wr.alloc (.cells #[.int .i64 x0, .int .i64 x1, .string x2] 91) := ⟨_, rfl⟩
      have hb1 : Below wr.heap.size wr w1 := hw1 ▸ Go.Joins.below_alloc1 _ _
      have H1 : Hid (Bx w1 wr.heap.size [.int .i64 x0, .int .i64 x1, .string x2] ∧ Below wr.heap.size wr w1) := ⟨hw1 ▸ Bx.new wr [_, _, _] _, hb1⟩
      clear hb1 hM hC HLE hbx
      go_wp2_with fail
      rw [← hw1]
      clear hw1 xc0 xc1 xc2
      refine (clone_any _ _ HV.out).mono ?_
      rintro r w2 ⟨rfl, hb⟩
      have H2 : Hid (Bx w2 wr.heap.size [.int .i64 x0, .int .i64 x1, .string x2] ∧ Below wr.heap.size wr w2) := ⟨H1.out.1.next hb, below_next H1.out.2 hb⟩
      clear hb H1
      have q0 := (H2.out.1).cell 0 rfl; have q1 := (H2.out.1).cell 1 rfl; have q2 := (H2.out.1).cell 2 rfl; have qz := (H2.out.1).2
      have f2 := H2.out.1.frz 2 (by simp)
      obtain ⟨w3, hw3⟩ : ∃ x, x = w2.setCell ⟨wr.heap.size, 2, none⟩ (.string x2) := ⟨_, rfl⟩
      have H3 : Hid (Bx w3 wr.heap.size [.int .i64 x0, .int .i64 x1, .string x2] ∧ CsS w (w.heap.size + 1 + 1) (w.heap.size + 1) w3 (.slice av M.length cv) M (.slice none 0 0) [] ∧ Bx w3 w.heap.size [.slice (some ⟨xg, xoff, none⟩) ac.length k1, .slice a2 ps.length k2]) := by
        have e1 : Bx w3 wr.heap.size [.int .i64 x0, .int .i64 x1, .string x2] := hw3 ▸ H2.out.1.set (k := 2) (by simp) (.string x2)
        have e2 : Below wr.heap.size wr w3 := hw3 ▸ H2.out.2.setCell (p := ⟨wr.heap.size, 2, none⟩) (Nat.le_refl _) _
        exact ⟨e1, HC.out.1.next e2, HC.out.2.next e2⟩
      clear H2 HC
      go_upto_region 6 with fail
      rw [← hw3]
      clear hw3 q0 q1 q2 qz f2
      have H4 : Hid (CsS w (w.heap.size + 1 + 1) (w.heap.size + 1) (w3.alloc (.cells #[.int .i64 x0, .int .i64 x1, .string x2] 91)) (.slice av M.length cv) M (.slice none 0 0) [] ∧ Bx (w3.alloc (.cells #[.int .i64 x0, .int .i64 x1, .string x2] 91)) w.heap.size [.slice (some ⟨xg, xoff, none⟩) ac.length k1, .slice a2 ps.length k2]) := ⟨H3.out.2.1.next (Go.Joins.below_alloc1 _ _), H3.out.2.2.alloc _⟩
      have HNW := Hid.intro (cells_new w3 [.int .i64 x0, .int .i64 x1, .string x2] 91)
      have q0 := (H3.out.1).cell 0 rfl; have q1 := (H3.out.1).cell 1 rfl; have q2 := (H3.out.1).cell 2 rfl; have qz := (H3.out.1).2
      have p0 := (H3.out.2.1.1).cell 0 rfl; have p1 := (H3.out.2.1.1).cell 1 rfl; have pz := (H3.out.2.1.1).2
      have hz3 : w.heap.size + 1 + 1 + 1 ≤ w3.heap.size := H3.out.2.1.1.2
      clear H3
      go_wp2_with (first | (at_builtin; refine wpList_append_own_at _ rfl (.tmp 20) (.tmp 22) 27 rfl (w.heap.size + 1 + 1 + 1) 91 j0 (.agg #[.int .i64 0, .int .i64 0, .string ⟨#[]⟩]) 3 32 Try.underlying27 hj0 hy0 hy1 hy2 rfl (by decide) (.slice av M.length cv) M.length (acC M) rfl H4.out.1.2.2.1 ⟨w3.heap.size, 0, none⟩ 1 1 [.int .i64 x0, .int .i64 x1, .string x2] rfl rfl HNW.out (by intro u hu; simp at hu; rcases hu with rfl | rfl | rfl <;> rfl) (by unfold maxLen; omega) (by omega) (by simp <;> omega) ?_; intro v9 w9 hown9 hgrow9 hnil9 hwh9; have HF := Hid.intro (CsS.appA H4.out.1 hown9 hgrow9 hwh9); obtain ⟨a9, c9, hv9⟩ := OwnX.vform (OwnX.of_flat (e := tyAcceptor) (S := fun _ => True) rfl HF.out.1.2.2.1 (fun _ _ => trivial)); have HB9 : Hid (Bx w9 w.heap.size [.slice (some ⟨xg, xoff, none⟩) ac.length k1, .slice a2 ps.length k2]) := Hid.intro (H4.out.2.grow hgrow9 (fun e => by have := (H4.out.1.2.2.1.lt _ e.symm).1; omega)); subst hv9; have r0 := HF.out.2.cell 0 rfl; have r1 := HF.out.2.cell 1 rfl; have rz := HF.out.2.2; have g1 := HF.out.2.frz 0 (by simp); clear hown9 hgrow9 hnil9 hwh9))
      go_roundw
      case rel => exact ⟨k + 1, _, by omega, by go_num, by rw [HPT.out]; exact HF.out.1, HB9.out.other (by omega)⟩
      case measure => simp [intOf]; omega
    · have hkn : k = ac.length := by omega
      have hC2 : CsS w (w.heap.size + 1 + 1) (w.heap.size + 1) wr va ac (.slice none 0 0) (ps.take 0) := by have := hC; rw [hkn, List.take_length] at this; exact this
      have HC : Hid (CsS w (w.heap.size + 1 + 1) (w.heap.size + 1) wr va ac (.slice none 0 0) (ps.take 0)) := hC2
      have s0 := (hbx).cell 0 rfl; have s1 := (hbx).cell 1 rfl; have sz := (hbx).2
      clear hC hC2 hbx hkn hj0 hy0 hy1 hy2
      obtain ⟨j1, hj0, hy0, hy1, hy2⟩ := info_parts inf_Proposer
      go_wp2
      clear s0 s1 sz
      go_loopw [29] (fun i wr => ∃ (k : Nat) (vp : Value), k ≤ ps.length ∧ i = .int .i64 k ∧ CsS w (w.heap.size + 1 + 1) (w.heap.size + 1) wr va ac vp (ps.take k)) (fun i _ => ps.length - (intOf i).toNat)
      case atStart => exact ⟨0, _, Nat.zero_le _, rfl, HC.out⟩
      case round =>
        obtain ⟨k, vp, hk, rfl, hC⟩ := hrel
        clear HC
        by_cases hlt : k < ps.length
        · have hlt' : (k : Int) < (ps.length : Int) := by omega
          have HLE : Hid (Lies wr (.list shProposer) [.slice a2 ps.length k2] ps) := HL.out.2.next hC.2.2.2.2.1
          obtain ⟨xg, xoff, xgo, xgs, xec, xel, xhec, xle⟩ := Lies.elem (HLE.out) hlt
          subst xgo
          rcases xX : ps[k] with ⟨x0, x1, x2, x3, x4, ⟨⟩⟩
          rw [xX] at xle
          have xH : Hid (ps[k] = (x0, x1, x2, x3, x4, ())) := xX
          clear xX
          obtain ⟨xa1, xk1, xa2, xk2, xev, xq1, xq2⟩ := lies_Proposer xle
          subst xev
          have xc0 : wr.cell? ⟨xg, xoff + k * 5, none⟩ = some (.string x0) := xhec 0 (by simp)
          have xc1 : wr.cell? ⟨xg, xoff + k * 5 + 1, none⟩ = some (.slice xa1 x1.length xk1) := xhec 1 (by simp)
          have xc2 : wr.cell? ⟨xg, xoff + k * 5 + 2, none⟩ = some (.bool x2) := xhec 2 (by simp)
          have xc3 : wr.cell? ⟨xg, xoff + k * 5 + 3, none⟩ = some (.string x3) := xhec 3 (by simp)
          have xc4 : wr.cell? ⟨xg, xoff + k * 5 + 4, none⟩ = some (.slice xa2 x4.length xk2) := xhec 4 (by simp)
          clear xhec xel xle
          have hV := (syn_sizes HZ.out).2.1 ps[k] (List.getElem_mem hlt)
          rw [xH.out] at hV
          have HV : Hid (x0.size ≤ 1073741824 ∧ szD (.list shPromise) x1 ≤ 1073741824 ∧ x3.size ≤ 1073741824 ∧ x4.length ≤ 1073741824) := hV
          have HPT : Hid (ps.take (k + 1) = ps.take k ++ [mkPo x0 x1 x2 x3 x4]) := Hid.intro (by rw [List.take_succ_eq_append_getElem hlt, xH.out]; rfl)
          have hml : (ps.take k).length ≤ 1073741824 := by rw [List.length_take]; omega
          obtain ⟨M, hM⟩ : ∃ M, M = ps.take k := ⟨_, rfl⟩
          rw [← hM] at hC HPT hml
          obtain ⟨S, q4, q5⟩ := hC.2.2.2.1
          obtain ⟨av, cv, hvE⟩ := q4.vform
          subst hvE
          obtain ⟨xs, r1, r2, B, r3, r4, r5⟩ := q4.row
          have HR : Hid (CsS w (w.heap.size + 1 + 1) (w.heap.size + 1) wr va ac (.slice av M.length cv) M ∧ wr.ownsRow (w.heap.size + 1 + 1 + 1) 43 5 (.slice av M.length cv) M.length xs ∧ (∀ k, (Value.slice av M.length cv).ownBlock = some k → S k) ∧ (∀ i, i < M.length → ∀ k, B i k → S k ∧ (Value.slice av M.length cv).ownBlock ≠ some k) ∧ (∀ i j, i < j → j < M.length → ∀ k, B i k → ¬ B j k) ∧ (∀ i (h : i < M.length), OwnX wr (w.heap.size + 1 + 1 + 1) tyProposer ((xs.drop (i * 5)).take 5) M[i] (B i)) ∧ ∀ k, S k → w.heap.size + 1 + 1 + 1 ≤ k ∧ k < wr.heap.size ∧ va.ownBlock ≠ some k) := ⟨hC, r1, r2, r3, r4, r5, q5⟩
          have hbw : w.heap.size + 1 + 1 < wr.heap.size := hC.1.2
          have HVA : Hid (∀ k, va.ownBlock = some k → k < wr.heap.size) := fun k hk => (hC.2.2.1.lt k hk).2
          obtain ⟨w1, hw1⟩ : ∃ x, x = wr.alloc (.cells #[.string x0, .slice xa1 x1.length xk1, .bool x2, .string x3, .slice xa2 x4.length xk2] 43) := ⟨_, rfl⟩
          have hb1 : Below wr.heap.size wr w1 := hw1 ▸ Go.Joins.below_alloc1 _ _
          have HW : Hid (Bx w1.drew wr.heap.size [.string x0, .slice xa1 x1.length xk1, .bool x2, .string x3, .slice xa2 x4.length xk2] ∧ Below wr.heap.size wr w1.drew) := ⟨(hw1 ▸ Bx.new wr [_, _, _, _, _] _ : Bx w1 _ _).next (below_drew _), below_next hb1 (below_drew _)⟩
          have HLX : Hid (Lies wr (.list shPromise) [.slice xa1 x1.length xk1] x1 ∧ Lies wr (.list .int) [.slice xa2 x4.length xk2] x4) := ⟨xq1, xq2⟩
          clear hb1 hM hC HLE hV q4 q5 r1 r2 r3 r4 r5 xq1 xq2
          go_upto_region 11 with fail
          rw [← hw1]
          clear hw1 xc0 xc1 xc2 xc3 xc4
          refine wp_region_noPanic ?_
          refine wp_region_held_drew (S := fun W => Bx W wr.heap.size [.string x0, .slice xa1 x1.length xk1, .bool x2, .string x3, .slice xa2 x4.length xk2]) (by kernel_rfl) HW.out.1 (fun hHeld => ?_)
          obtain ⟨W, hWE⟩ : ∃ x, x = w1.drew := ⟨_, rfl⟩
          rw [← hWE] at HW hHeld ⊢
          clear hWE
          refine take_v (v := ?_) 0 ⟨some 33, Op.fieldAddr 30 (Operand.tmp 3) 1, _, _, _, none⟩ rfl (fun _ _ _ h => h) ?_ hHeld ?_
          rotate_left
          · (intro W _; go_simp <;> (try with_reducible rfl))
          refine take_v (v := ?_) 2 ⟨some 35, Op.load 43 (Operand.tmp 7), _, _, _, none⟩ rfl (fun _ _ _ h => h) ?_ hHeld ?_
          rotate_left
          · (intro W hSW; (have s0 := hSW.cell 0 rfl; have s1 := hSW.cell 1 rfl; have s2 := hSW.cell 2 rfl; have s3 := hSW.cell 3 rfl; have s4 := hSW.cell 4 rfl; have sz := hSW.2); go_simp <;> (try with_reducible rfl))
          refine ready_two 1 3 ⟨some 34, Op.load 28 (Operand.tmp 33), _, _, _, none⟩ ⟨some 36, Op.call { callee := Callee.value (Operand.func 104), args := #[Operand.tmp 35], argTypes := #[43] }, _, _, _, none⟩ (by kernel_rfl) rfl rfl (by kernel_rfl) (by kernel_rfl) (fun KC hK => ?_) (fun KC hK => ?_)
          ·
            (first | (have hq1 := HR.out.1.1.next HWB.out; have e0 := hq1.cell 0 rfl; have e1 := hq1.cell 1 rfl; have ez := hq1.2; go_wp2_with fail; clear hq1 e0 e1 ez) | (have hq1 := HR.out.1.1.next HW.out.2; have e0 := hq1.cell 0 rfl; have e1 := hq1.cell 1 rfl; have ez := hq1.2; go_wp2_with fail; clear hq1 e0 e1 ez))
            refine hK.out _ _ hHeld (fun hHeld => ?_)
            clear hK KC
            refine ready_call 3 ⟨some 36, Op.call { callee := Callee.value (Operand.func 104), args := #[Operand.tmp 35], argTypes := #[43] }, _, _, _, none⟩ (by kernel_rfl) rfl (by kernel_rfl) (fun KC hK => ?_)
            go_wp2_with fail
            refine (cloneProposer_n x0 _ _ x1 x2 x3 _ _ x4 _ HV.out.1 HV.out.2.1 HV.out.2.2.1 HV.out.2.2.2 (HLX.out.1.next HW.out.2) (HLX.out.2.next HW.out.2)).mono ?_
            rintro r W3 ⟨ecs, rfl, hX, hb⟩
            obtain ⟨v1, S1, v2, S2, hev, t1, t2, t3, t4, t5⟩ := ownx_Proposer hX
            subst hev
            obtain ⟨va1, vc1, hv1⟩ := t1.vform
            obtain ⟨va2, vc2, hv2⟩ := t2.vform
            have HX : Hid (OwnX W3 (w.heap.size + 1 + 1 + 1) tyProposer [.string x0, v1, .bool x2, .string x3, v2] (mkPo x0 x1 x2 x3 x4) (Btw wr.heap.size W3.heap.size)) := Hid.intro ((hX.lower (by have := HW.out.2.size; omega)).mono (fun k hk => ⟨Nat.le_trans HW.out.2.size hk.1, hk.2⟩))
            have HW := (show Hid (Bx W3 wr.heap.size [.string x0, .slice xa1 x1.length xk1, .bool x2, .string x3, .slice xa2 x4.length xk2] ∧ Below wr.heap.size wr W3) from ⟨HW.out.1.next hb, below_next HW.out.2 hb⟩)
            have HWB : Hid (Below wr.heap.size wr W3) := HW.out.2
            subst hv1 hv2
            clear hb hX t1 t2 t3 t4 t5
            refine hK.out _ _ HW.out.1 (fun hHeld => ?_)
            clear hK KC
            refine ready_call 4 ⟨some 37, Op.buildSlice 28 1 #[(0, Operand.tmp 36)], _, _, _, none⟩ (by kernel_rfl) rfl (by kernel_rfl) (fun KC hK => ?_)
            go_wp2_with fail
            have hb := Go.Joins.below_alloc1 W3 (.cells #[.string x0, .slice va1 x1.length vc1, .bool x2, .string x3, .slice va2 x4.length vc2] 43)
            have HX2 := Hid.intro (HX.out.next hb)
            have HNW := Hid.intro (cells_new W3 [.string x0, .slice va1 x1.length vc1, .bool x2, .string x3, .slice va2 x4.length vc2] 43)
            have HW := (show Hid (Bx _ wr.heap.size [.string x0, .slice xa1 x1.length xk1, .bool x2, .string x3, .slice xa2 x4.length xk2] ∧ Below wr.heap.size wr _) from ⟨HW.out.1.next hb, below_next HW.out.2 hb⟩)
            clear hb
            refine hK.out _ _ HW.out.1 (fun hHeld => ?_)
            clear hK KC
            refine ready_call 5 ⟨some 38, Op.call { callee := Callee.builtin Builtin.append, args := #[Operand.tmp 34, Operand.tmp 37], argTypes := #[28, 28] }, _, _, _, none⟩ (by kernel_rfl) rfl (by kernel_rfl) (fun KC hK => ?_)
            have hsz := HW.out.2.size
            refine wp_append_at (W3.alloc (.cells #[.string x0, .slice va1 x1.length vc1, .bool x2, .string x3, .slice va2 x4.length vc2] 43)) (.tmp 34) (.tmp 37) 28 (by rfl) (w.heap.size + 1 + 1 + 1) 43 j1 (.agg #[.string ⟨#[]⟩, .slice none 0 0, .bool false, .string ⟨#[]⟩, .slice none 0 0]) 5 88 Try.underlying28 hj0 hy0 hy1 hy2 rfl (by decide) (.slice av M.length cv) M.length xs (by rfl) (ownsRow_next HR.out.2.1 HW.out.2) ⟨W3.heap.size, 0, none⟩ 1 1 [.string x0, .slice va1 x1.length vc1, .bool x2, .string x3, .slice va2 x4.length vc2] (by rfl) rfl HNW.out (by intro u hu; simp at hu; rcases hu with rfl | rfl | rfl | rfl | rfl <;> rfl) (by unfold maxLen; omega) (by omega) (by omega) ?_
            intro v9 w9 hown9 hgrow9 hwh9
            have HF := Hid.intro (CsS.appP (HR.out.1.next HW.out.2) (ownsRow_next HR.out.2.1 HW.out.2) HR.out.2.2.1 HR.out.2.2.2.1 HR.out.2.2.2.2.1 (fun i hi => (HR.out.2.2.2.2.2.1 i hi).next HW.out.2) (fun k hk => ⟨(HR.out.2.2.2.2.2.2 k hk).1, Nat.lt_of_lt_of_le (HR.out.2.2.2.2.2.2 k hk).2.1 hsz, (HR.out.2.2.2.2.2.2 k hk).2.2⟩) HX2.out (fun k hk => ⟨by have q1 : wr.heap.size ≤ k := hk.1; omega, by have q2 : k < W3.heap.size := hk.2; simp; omega, fun e => by have q1 : wr.heap.size ≤ k := hk.1; have := (HR.out.2.2.2.2.2.2 k e).2.1; omega, fun e => by have q1 : wr.heap.size ≤ k := hk.1; have := HVA.out k e; omega⟩) hown9 hgrow9 hwh9)
            obtain ⟨S9, o9, p9⟩ := HF.out.1.2.2.2.1
            obtain ⟨a9, c9, hv9⟩ := o9.vform
            have HBX := Hid.intro (HW.out.1.grow hgrow9 (fun e => by have := (HR.out.2.1.lt _ e.symm).2; omega))
            subst hv9
            clear hown9 hgrow9 hwh9 o9 p9 S9
            refine hK.out _ _ HBX.out (fun hHeld => ?_)
            clear hK KC
            refine take_v (v := ?_) 6 ⟨some 39, Op.fieldAddr 30 (Operand.tmp 3) 1, _, _, _, none⟩ rfl (fun _ _ _ h => h) ?_ hHeld ?_
            rotate_left
            · (intro W _; go_simp <;> (try with_reducible rfl))
            refine ready_call 7 ⟨none, Op.store 28 (Operand.tmp 39) (Operand.tmp 38), _, _, _, none⟩ (by kernel_rfl) rfl (by kernel_rfl) (fun KC hK => ?_)
            have r0 := HF.out.2.cell 0 rfl
            have r1 := HF.out.2.cell 1 rfl
            have rz := HF.out.2.2
            have g0 := HF.out.2.frz 0 (by simp)
            have g1 := HF.out.2.frz 1 (by simp)
            go_wp2_with fail
            clear r0 r1 rz g0 g1
            refine hK.out _ _ (HBX.out.other (Nat.ne_of_gt hbw)) (fun hHeld => ?_)
            clear hK KC
            refine wpAnyH_done (by kernel_rfl) ?_ _
            refine NoPanic.normal ?_
            clear hHeld
            go_wp2
            go_roundw
            case rel => exact ⟨k + 1, _, by omega, by go_num, by rw [HPT.out]; exact HF.out.1⟩
            case measure => simp [intOf]; omega
          ·
            go_wp2_with fail
            refine (cloneProposer_n x0 _ _ x1 x2 x3 _ _ x4 _ HV.out.1 HV.out.2.1 HV.out.2.2.1 HV.out.2.2.2 (HLX.out.1.next HW.out.2) (HLX.out.2.next HW.out.2)).mono ?_
            rintro r W3 ⟨ecs, rfl, hX, hb⟩
            obtain ⟨v1, S1, v2, S2, hev, t1, t2, t3, t4, t5⟩ := ownx_Proposer hX
            subst hev
            obtain ⟨va1, vc1, hv1⟩ := t1.vform
            obtain ⟨va2, vc2, hv2⟩ := t2.vform
            have HX : Hid (OwnX W3 (w.heap.size + 1 + 1 + 1) tyProposer [.string x0, v1, .bool x2, .string x3, v2] (mkPo x0 x1 x2 x3 x4) (Btw wr.heap.size W3.heap.size)) := Hid.intro ((hX.lower (by have := HW.out.2.size; omega)).mono (fun k hk => ⟨Nat.le_trans HW.out.2.size hk.1, hk.2⟩))
            have HW := (show Hid (Bx W3 wr.heap.size [.string x0, .slice xa1 x1.length xk1, .bool x2, .string x3, .slice xa2 x4.length xk2] ∧ Below wr.heap.size wr W3) from ⟨HW.out.1.next hb, below_next HW.out.2 hb⟩)
            have HWB : Hid (Below wr.heap.size wr W3) := HW.out.2
            subst hv1 hv2
            clear hb hX t1 t2 t3 t4 t5
            refine hK.out _ _ HW.out.1 (fun hHeld => ?_)
            clear hK KC
            refine ready_two 1 4 ⟨some 34, Op.load 28 (Operand.tmp 33), _, _, _, none⟩ ⟨some 37, Op.buildSlice 28 1 #[(0, Operand.tmp 36)], _, _, _, none⟩ (by kernel_rfl) rfl rfl (by kernel_rfl) (by kernel_rfl) (fun KC hK => ?_) (fun KC hK => ?_)
            ·
              (first | (have hq1 := HR.out.1.1.next HWB.out; have e0 := hq1.cell 0 rfl; have e1 := hq1.cell 1 rfl; have ez := hq1.2; go_wp2_with fail; clear hq1 e0 e1 ez) | (have hq1 := HR.out.1.1.next HW.out.2; have e0 := hq1.cell 0 rfl; have e1 := hq1.cell 1 rfl; have ez := hq1.2; go_wp2_with fail; clear hq1 e0 e1 ez))
              refine hK.out _ _ hHeld (fun hHeld => ?_)
              clear hK KC
              refine ready_call 4 ⟨some 37, Op.buildSlice 28 1 #[(0, Operand.tmp 36)], _, _, _, none⟩ (by kernel_rfl) rfl (by kernel_rfl) (fun KC hK => ?_)
              go_wp2_with fail
              have hb := Go.Joins.below_alloc1 W3 (.cells #[.string x0, .slice va1 x1.length vc1, .bool x2, .string x3, .slice va2 x4.length vc2] 43)
              have HX2 := Hid.intro (HX.out.next hb)
              have HNW := Hid.intro (cells_new W3 [.string x0, .slice va1 x1.length vc1, .bool x2, .string x3, .slice va2 x4.length vc2] 43)
              have HW := (show Hid (Bx _ wr.heap.size [.string x0, .slice xa1 x1.length xk1, .bool x2, .string x3, .slice xa2 x4.length xk2] ∧ Below wr.heap.size wr _) from ⟨HW.out.1.next hb, below_next HW.out.2 hb⟩)
              clear hb
              refine hK.out _ _ HW.out.1 (fun hHeld => ?_)
              clear hK KC
              refine ready_call 5 ⟨some 38, Op.call { callee := Callee.builtin Builtin.append, args := #[Operand.tmp 34, Operand.tmp 37], argTypes := #[28, 28] }, _, _, _, none⟩ (by kernel_rfl) rfl (by kernel_rfl) (fun KC hK => ?_)
              have hsz := HW.out.2.size
              refine wp_append_at (W3.alloc (.cells #[.string x0, .slice va1 x1.length vc1, .bool x2, .string x3, .slice va2 x4.length vc2] 43)) (.tmp 34) (.tmp 37) 28 (by rfl) (w.heap.size + 1 + 1 + 1) 43 j1 (.agg #[.string ⟨#[]⟩, .slice none 0 0, .bool false, .string ⟨#[]⟩, .slice none 0 0]) 5 88 Try.underlying28 hj0 hy0 hy1 hy2 rfl (by decide) (.slice av M.length cv) M.length xs (by rfl) (ownsRow_next HR.out.2.1 HW.out.2) ⟨W3.heap.size, 0, none⟩ 1 1 [.string x0, .slice va1 x1.length vc1, .bool x2, .string x3, .slice va2 x4.length vc2] (by rfl) rfl HNW.out (by intro u hu; simp at hu; rcases hu with rfl | rfl | rfl | rfl | rfl <;> rfl) (by unfold maxLen; omega) (by omega) (by omega) ?_
              intro v9 w9 hown9 hgrow9 hwh9
              have HF := Hid.intro (CsS.appP (HR.out.1.next HW.out.2) (ownsRow_next HR.out.2.1 HW.out.2) HR.out.2.2.1 HR.out.2.2.2.1 HR.out.2.2.2.2.1 (fun i hi => (HR.out.2.2.2.2.2.1 i hi).next HW.out.2) (fun k hk => ⟨(HR.out.2.2.2.2.2.2 k hk).1, Nat.lt_of_lt_of_le (HR.out.2.2.2.2.2.2 k hk).2.1 hsz, (HR.out.2.2.2.2.2.2 k hk).2.2⟩) HX2.out (fun k hk => ⟨by have q1 : wr.heap.size ≤ k := hk.1; omega, by have q2 : k < W3.heap.size := hk.2; simp; omega, fun e => by have q1 : wr.heap.size ≤ k := hk.1; have := (HR.out.2.2.2.2.2.2 k e).2.1; omega, fun e => by have q1 : wr.heap.size ≤ k := hk.1; have := HVA.out k e; omega⟩) hown9 hgrow9 hwh9)
              obtain ⟨S9, o9, p9⟩ := HF.out.1.2.2.2.1
              obtain ⟨a9, c9, hv9⟩ := o9.vform
              have HBX := Hid.intro (HW.out.1.grow hgrow9 (fun e => by have := (HR.out.2.1.lt _ e.symm).2; omega))
              subst hv9
              clear hown9 hgrow9 hwh9 o9 p9 S9
              refine hK.out _ _ HBX.out (fun hHeld => ?_)
              clear hK KC
              refine take_v (v := ?_) 6 ⟨some 39, Op.fieldAddr 30 (Operand.tmp 3) 1, _, _, _, none⟩ rfl (fun _ _ _ h => h) ?_ hHeld ?_
              rotate_left
              · (intro W _; go_simp <;> (try with_reducible rfl))
              refine ready_call 7 ⟨none, Op.store 28 (Operand.tmp 39) (Operand.tmp 38), _, _, _, none⟩ (by kernel_rfl) rfl (by kernel_rfl) (fun KC hK => ?_)
              have r0 := HF.out.2.cell 0 rfl
              have r1 := HF.out.2.cell 1 rfl
              have rz := HF.out.2.2
              have g0 := HF.out.2.frz 0 (by simp)
              have g1 := HF.out.2.frz 1 (by simp)
              go_wp2_with fail
              clear r0 r1 rz g0 g1
              refine hK.out _ _ (HBX.out.other (Nat.ne_of_gt hbw)) (fun hHeld => ?_)
              clear hK KC
              refine wpAnyH_done (by kernel_rfl) ?_ _
              refine NoPanic.normal ?_
              clear hHeld
              go_wp2
              go_roundw
              case rel => exact ⟨k + 1, _, by omega, by go_num, by rw [HPT.out]; exact HF.out.1⟩
              case measure => simp [intOf]; omega
            ·
              go_wp2_with fail
              have hb := Go.Joins.below_alloc1 W3 (.cells #[.string x0, .slice va1 x1.length vc1, .bool x2, .string x3, .slice va2 x4.length vc2] 43)
              have HX2 := Hid.intro (HX.out.next hb)
              have HNW := Hid.intro (cells_new W3 [.string x0, .slice va1 x1.length vc1, .bool x2, .string x3, .slice va2 x4.length vc2] 43)
              have HW := (show Hid (Bx _ wr.heap.size [.string x0, .slice xa1 x1.length xk1, .bool x2, .string x3, .slice xa2 x4.length xk2] ∧ Below wr.heap.size wr _) from ⟨HW.out.1.next hb, below_next HW.out.2 hb⟩)
              clear hb
              refine hK.out _ _ HW.out.1 (fun hHeld => ?_)
              clear hK KC
              refine ready_call 1 ⟨some 34, Op.load 28 (Operand.tmp 33), _, _, _, none⟩ (by kernel_rfl) rfl (by kernel_rfl) (fun KC hK => ?_)
              (first | (have hq1 := HR.out.1.1.next HWB.out; have e0 := hq1.cell 0 rfl; have e1 := hq1.cell 1 rfl; have ez := hq1.2; go_wp2_with fail; clear hq1 e0 e1 ez) | (have hq1 := HR.out.1.1.next HW.out.2; have e0 := hq1.cell 0 rfl; have e1 := hq1.cell 1 rfl; have ez := hq1.2; go_wp2_with fail; clear hq1 e0 e1 ez))
              refine hK.out _ _ hHeld (fun hHeld => ?_)
              clear hK KC
              refine ready_call 5 ⟨some 38, Op.call { callee := Callee.builtin Builtin.append, args := #[Operand.tmp 34, Operand.tmp 37], argTypes := #[28, 28] }, _, _, _, none⟩ (by kernel_rfl) rfl (by kernel_rfl) (fun KC hK => ?_)
              have hsz := HW.out.2.size
              refine wp_append_at (W3.alloc (.cells #[.string x0, .slice va1 x1.length vc1, .bool x2, .string x3, .slice va2 x4.length vc2] 43)) (.tmp 34) (.tmp 37) 28 (by rfl) (w.heap.size + 1 + 1 + 1) 43 j1 (.agg #[.string ⟨#[]⟩, .slice none 0 0, .bool false, .string ⟨#[]⟩, .slice none 0 0]) 5 88 Try.underlying28 hj0 hy0 hy1 hy2 rfl (by decide) (.slice av M.length cv) M.length xs (by rfl) (ownsRow_next HR.out.2.1 HW.out.2) ⟨W3.heap.size, 0, none⟩ 1 1 [.string x0, .slice va1 x1.length vc1, .bool x2, .string x3, .slice va2 x4.length vc2] (by rfl) rfl HNW.out (by intro u hu; simp at hu; rcases hu with rfl | rfl | rfl | rfl | rfl <;> rfl) (by unfold maxLen; omega) (by omega) (by omega) ?_
              intro v9 w9 hown9 hgrow9 hwh9
              have HF := Hid.intro (CsS.appP (HR.out.1.next HW.out.2) (ownsRow_next HR.out.2.1 HW.out.2) HR.out.2.2.1 HR.out.2.2.2.1 HR.out.2.2.2.2.1 (fun i hi => (HR.out.2.2.2.2.2.1 i hi).next HW.out.2) (fun k hk => ⟨(HR.out.2.2.2.2.2.2 k hk).1, Nat.lt_of_lt_of_le (HR.out.2.2.2.2.2.2 k hk).2.1 hsz, (HR.out.2.2.2.2.2.2 k hk).2.2⟩) HX2.out (fun k hk => ⟨by have q1 : wr.heap.size ≤ k := hk.1; omega, by have q2 : k < W3.heap.size := hk.2; simp; omega, fun e => by have q1 : wr.heap.size ≤ k := hk.1; have := (HR.out.2.2.2.2.2.2 k e).2.1; omega, fun e => by have q1 : wr.heap.size ≤ k := hk.1; have := HVA.out k e; omega⟩) hown9 hgrow9 hwh9)
              obtain ⟨S9, o9, p9⟩ := HF.out.1.2.2.2.1
              obtain ⟨a9, c9, hv9⟩ := o9.vform
              have HBX := Hid.intro (HW.out.1.grow hgrow9 (fun e => by have := (HR.out.2.1.lt _ e.symm).2; omega))
              subst hv9
              clear hown9 hgrow9 hwh9 o9 p9 S9
              refine hK.out _ _ HBX.out (fun hHeld => ?_)
              clear hK KC
              refine take_v (v := ?_) 6 ⟨some 39, Op.fieldAddr 30 (Operand.tmp 3) 1, _, _, _, none⟩ rfl (fun _ _ _ h => h) ?_ hHeld ?_
              rotate_left
              · (intro W _; go_simp <;> (try with_reducible rfl))
              refine ready_call 7 ⟨none, Op.store 28 (Operand.tmp 39) (Operand.tmp 38), _, _, _, none⟩ (by kernel_rfl) rfl (by kernel_rfl) (fun KC hK => ?_)
              have r0 := HF.out.2.cell 0 rfl
              have r1 := HF.out.2.cell 1 rfl
              have rz := HF.out.2.2
              have g0 := HF.out.2.frz 0 (by simp)
              have g1 := HF.out.2.frz 1 (by simp)
              go_wp2_with fail
              clear r0 r1 rz g0 g1
              refine hK.out _ _ (HBX.out.other (Nat.ne_of_gt hbw)) (fun hHeld => ?_)
              clear hK KC
              refine wpAnyH_done (by kernel_rfl) ?_ _
              refine NoPanic.normal ?_
              clear hHeld
              go_wp2
              go_roundw
              case rel => exact ⟨k + 1, _, by omega, by go_num, by rw [HPT.out]; exact HF.out.1⟩
              case measure => simp [intOf]; omega
        · have hkn : k = ps.length := by omega
          have hC2 : CsS w (w.heap.size + 1 + 1) (w.heap.size + 1) wr va ac vp ps := by have := hC; rwa [hkn, List.take_length] at this
          obtain ⟨av, cv, hvE⟩ := OwnX.vform (OwnX.of_flat (e := tyAcceptor) (S := fun _ => True) rfl hC2.2.2.1 (fun _ _ => trivial))
          subst hvE
          obtain ⟨S, q4, q5⟩ := hC2.2.2.2.1
          obtain ⟨av2, cv2, hvE⟩ := q4.vform
          subst hvE
          have HF := Hid.intro hC2
          have p0 := (hC2.1).cell 0 rfl; have p1 := (hC2.1).cell 1 rfl; have pz := (hC2.1).2
          have q0 := (hC2.2.1).cell 0 rfl; have q1 := (hC2.2.1).cell 1 rfl; have qz := (hC2.2.1).2
          have f0 := hC2.2.1.frz 0 (by simp)
          have f1 := hC2.2.1.frz 1 (by simp)
          clear hC hC2 hkn q4 q5
          go_wp2
          refine bodyPost_ret (v := .agg #[.slice av ac.length cv, .slice av2 ps.length cv2]) (by simp [results, Try.results74, go_sem, *]; exact ⟨rfl, rfl⟩) rfl ⟨[.slice av ac.length cv, .slice av2 ps.length cv2], rfl, HF.out.done (set2 _ _ _ _), ?_⟩
          exact (HF.out.2.2.2.2.1.setCell (p := ⟨w.heap.size + 1, 0, none⟩) (by simp) _).setCell (p := ⟨w.heap.size + 1, 1, none⟩) (by simp) _
end Go.Proofs.Ytmhkfangfhanlaa
