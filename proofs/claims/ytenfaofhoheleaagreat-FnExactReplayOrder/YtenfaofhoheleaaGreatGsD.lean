/- The contracts of isRunning, recordOf, ownsWrites, isOwned. -/
import Derived.Test.YtenfaofhoheleaaGreatGsC
import Derived.Test.YtenfaofhoheleaaGreatBsCell
import Derived.Test.YtenfaofhoheleaaGreatBsRecord
namespace Go.Proofs.YtenfaofhoheleaaGreat
open Go.RowKit
set_option linter.unusedVariables false

set_option maxRecDepth 100000 in
set_option maxHeartbeats 4000000 in
theorem isRunning_any (V : RuV) (A : RuA) (w : World) (hl : RuLen V) (ho : RuOk V) (hs : RuAt w A V) :
    Calls Tryz.prog 61 #[.agg #[.int .i64 V.id, .int .i64 V.st, .slice A.la V.ln A.lc, .slice A.ca V.cn A.cc, .int .i64 V.e, .int .i64 V.s, .bool V.b]] w fun r w' => r = .returned (.bool (clB (runP V))) ∧ Below w.heap.size w w' := by
  have HS : Hid (RuAt w A V ∧ RuLen V ∧ RuOk V) := ⟨hs, hl, ho⟩
  have HX : Hid (Bx (w.alloc (.cells #[.int .i64 V.id, .int .i64 V.st, .slice A.la V.ln A.lc, .slice A.ca V.cn A.cc, .int .i64 V.e, .int .i64 V.s, .bool V.b] 71)) w.heap.size [.int .i64 V.id, .int .i64 V.st, .slice A.la V.ln A.lc, .slice A.ca V.cn A.cc, .int .i64 V.e, .int .i64 V.s, .bool V.b] ∧ Below w.heap.size w (w.alloc (.cells #[.int .i64 V.id, .int .i64 V.st, .slice A.la V.ln A.lc, .slice A.ca V.cn A.cc, .int .i64 V.e, .int .i64 V.s, .bool V.b] 71))) := ⟨Bx.new w [.int .i64 V.id, .int .i64 V.st, .slice A.la V.ln A.lc, .slice A.ca V.cn A.cc, .int .i64 V.e, .int .i64 V.s, .bool V.b] _, Go.Joins.below_alloc1 _ _⟩
  clear hs hl ho
  cases e1 : inR V.st 1 5
  · have HN : Hid (clB (runP V) = false) := clB_no fun g => by rw [g.1] at e1; cases e1
    go_enter Tryz.func61, Tryz.ntmps61
    go_wp2_with (go_at_call 40; refine (inRange_any _ _ _ _).mono ?_; rintro e w' ⟨rfl, rfl⟩)
    go_ret
    exact ⟨ret_bool HN.out.symm, HX.out.2⟩
  go_enter Tryz.func61, Tryz.ntmps61
  go_wp2_with (go_at_call 40; refine (inRange_any _ _ _ _).mono ?_; rintro e w' ⟨rfl, rfl⟩)
  refine (areLooks_any _ _ _ V.lk _ HS.out.2.2.1 HS.out.1.2.2.1 HS.out.2.1.2.2.1 (HS.out.1.next HX.out.2).1).mono ?_
  rintro r w1 ⟨rfl, hb⟩
  have H1 : Hid (Bx w1 w.heap.size [.int .i64 V.id, .int .i64 V.st, .slice A.la V.ln A.lc, .slice A.ca V.cn A.cc, .int .i64 V.e, .int .i64 V.s, .bool V.b] ∧ Below w.heap.size w w1) := ⟨HX.out.1.next hb, below_next' HX.out.2 hb⟩
  clear hb HX
  have c3 := H1.out.1.cell 3 rfl
  have cz := H1.out.1.2
  cases e2 : clB (V.ln ≤ 40 ∧ looksP V.lk V.ln)
  · have HN : Hid (clB (runP V) = false) := clB_no fun g => clB_not e2 g.2.1
    go_wp2
    go_ret
    exact ⟨ret_bool HN.out.symm, H1.out.2⟩
  have HL : Hid (V.ln ≤ 40 ∧ looksP V.lk V.ln) := clB_iff.1 e2
  go_wp2_with fail
  refine (areWrites_any _ _ _ V.cl _ HS.out.2.2.2 HS.out.2.1.2.2.2 (HS.out.1.next H1.out.2).2.1).mono ?_
  rintro r w2 ⟨rfl, hb⟩
  have H2 : Hid (Bx w2 w.heap.size [.int .i64 V.id, .int .i64 V.st, .slice A.la V.ln A.lc, .slice A.ca V.cn A.cc, .int .i64 V.e, .int .i64 V.s, .bool V.b] ∧ Below w.heap.size w w2) := ⟨H1.out.1.next hb, below_next' H1.out.2 hb⟩
  clear hb H1 c3 cz e2
  have c1 := H2.out.1.cell 1 rfl
  have c4 := H2.out.1.cell 4 rfl
  have c5 := H2.out.1.cell 5 rfl
  have c6 := H2.out.1.cell 6 rfl
  have cz := H2.out.1.2
  cases e3 : clB (cellsP V.cl V.cn)
  · have HN : Hid (clB (runP V) = false) := clB_no fun g => clB_not e3 g.2.2.1
    go_wp2
    go_ret
    exact ⟨ret_bool HN.out.symm, H2.out.2⟩
  have HC : Hid (cellsP V.cl V.cn) := clB_iff.1 e3
  have HR : Hid (clB (runP V) = tidOk V.st V.e V.s V.b) := clB_eq ⟨fun h => ⟨e1, HL.out, HC.out, h⟩, fun g => g.2.2.2⟩
  cases e4 : hasB V.st
  · have HT : Hid (clB (runP V) = tidE V.e V.s V.b 0 0 false) := by show _ = _; rw [HR.out, tidOk, if_neg (by rw [e4]; simp)]
    have r0 := run_eqTid V.e V.s V.b 0 0 false
    go_wp2_with (go_at_call 87; refine (hasTid_any _ _).mono ?_; rintro e w' ⟨rfl, rfl⟩)
    go_ret
    exact ⟨ret_bool HT.out.symm, H2.out.2⟩
  · have HT : Hid (clB (runP V) = (goodT V.e V.s && !V.b)) := by show _ = _; rw [HR.out, tidOk, if_pos e4]
    go_wp2_with (go_at_call 87; refine (hasTid_any _ _).mono ?_; rintro e w' ⟨rfl, rfl⟩)
    refine (goodTid_any _ _ _ _).mono ?_
    rintro r w3 ⟨rfl, hb⟩
    have H3 : Hid (Below w.heap.size w w3) := below_next' H2.out.2 hb
    have d6 := (H2.out.1.next hb).cell 6 rfl
    have dz := (H2.out.1.next hb).2
    clear hb H2 c1 c4 c5 c6 cz
    cases e5 : goodT V.e V.s
    · go_wp2
      go_ret
      exact ⟨ret_bool (by rw [HT.out, e5]; rfl), H3.out⟩
    · go_wp2
      go_ret
      exact ⟨ret_bool (by rw [HT.out, e5]; rfl), H3.out⟩

/-- What recordOf may answer: where the keys rise, the record of the key, or one that nobody owns. -/
def RecPost (R : Nat → RecordV) (n : Nat) (t : ByteArray) (w : World) (r : Ending) (w' : World) : Prop :=
  ∃ o : RecordV, r = .returned (.agg #[.string o.f0, .string o.f1, .int .i64 o.f2, .int .i64 o.f3, .bool o.f4, .int .i64 o.f5]) ∧ (RiseK (fun q => (R q).f0) n → (∃ q, q < n ∧ (R q).f0.toList = t.toList ∧ o = R q) ∨ (o = ⟨⟨#[]⟩, ⟨#[]⟩, 0, 0, false, 0⟩ ∧ ∀ q, q < n → (R q).f0.toList ≠ t.toList)) ∧ Below w.heap.size w w'
set_option maxRecDepth 100000 in
set_option maxHeartbeats 4000000 in
theorem recordOf_any (a : Option Addr) (n cap : Nat) (R : Nat → RecordV) (t : ByteArray) (w : World) (hn : n ≤ 1048576) (hs : Sl w a n 6 (recordF R)) :
    Calls Tryz.prog 88 #[.slice a n cap, .string t] w fun r w' => RecPost R n t w r w' := by
  have HS : Hid (Sl w a n 6 (recordF R)) := hs
  clear hs
  have HX : Hid (Bx (w.alloc (.cells #[.string ⟨#[]⟩, .string ⟨#[]⟩, .int .i64 0, .int .i64 0, .bool false, .int .i64 0] 52)) w.heap.size [.string ⟨#[]⟩, .string ⟨#[]⟩, .int .i64 0, .int .i64 0, .bool false, .int .i64 0] ∧ Below w.heap.size w (w.alloc (.cells #[.string ⟨#[]⟩, .string ⟨#[]⟩, .int .i64 0, .int .i64 0, .bool false, .int .i64 0] 52))) := ⟨Bx.new w [.string ⟨#[]⟩, .string ⟨#[]⟩, .int .i64 0, .int .i64 0, .bool false, .int .i64 0] _, Go.Joins.below_alloc1 _ _⟩
  go_enter Tryz.func88, Tryz.ntmps88
  go_wp2_with fail
  refine (recordPlace_any _ _ _ R t _ hn (kept' HS.out HX.out.2)).mono ?_
  rintro r w1 ⟨p, f, rfl, hp, hb⟩
  have HP : Hid (Placed (fun q => (R q).f0) n t p f) := hp
  have hx := HX.out.1.next hb
  have HB : Hid (Below w.heap.size w w1) := below_next' HX.out.2 hb
  have d0 := hx.cell 0 rfl
  have d1 := hx.cell 1 rfl
  have d2 := hx.cell 2 rfl
  have d3 := hx.cell 3 rfl
  have d4 := hx.cell 4 rfl
  have d5 := hx.cell 5 rfl
  have z0 := hx.frz 0 (by simp)
  have z1 := hx.frz 1 (by simp)
  have z2 := hx.frz 2 (by simp)
  have z3 := hx.frz 3 (by simp)
  have z4 := hx.frz 4 (by simp)
  have z5 := hx.frz 5 (by simp)
  have sz := hx.2
  clear hx HX hp hb
  cases f
  · have HF : Hid (RiseK (fun q => (R q).f0) n → ∀ q, q < n → (R q).f0.toList ≠ t.toList) := fun hr => (HP.out.2.2 hr).2.2 rfl
    clear HP
    go_wp2
    refine bodyPost_ret (v := .agg #[.string ⟨#[]⟩, .string ⟨#[]⟩, .int .i64 0, .int .i64 0, .bool false, .int .i64 0]) (by simp [results, Tryz.results88, go_sem, *]) rfl ⟨⟨⟨#[]⟩, ⟨#[]⟩, 0, 0, false, 0⟩, rfl, fun hr => Or.inr ⟨rfl, HF.out hr⟩, ?_⟩
    repeat (refine Below.setCell ?_ (by dsimp only; omega) _)
    exact HB.out
  · have hpn : p < n := (HP.out.2.1 rfl).1
    have hpn' : (p : Int) < (n : Int) := by omega
    have HF : Hid ((R p).f0.toList = t.toList) := (HP.out.2.1 rfl).2
    clear HP
    rcases HS.out.below HB.out (Nat.le_refl _) with h | ⟨b, off, rfl, hbs, hE⟩
    · omega
    obtain ⟨c0, c1, c2, c3, c4, c5⟩ := record_cells hE hpn
    clear hE
    go_wp2
    refine bodyPost_ret (v := .agg #[.string (R p).f0, .string (R p).f1, .int .i64 (R p).f2, .int .i64 (R p).f3, .bool (R p).f4, .int .i64 (R p).f5]) (by simp [results, Tryz.results88, go_sem, *]) rfl ⟨R p, rfl, fun hr => Or.inl ⟨p, hpn, HF.out, rfl⟩, ?_⟩
    repeat (refine Below.setCell ?_ (by dsimp only; omega) _)
    exact HB.out

set_option maxRecDepth 100000 in
set_option maxHeartbeats 4000000 in
theorem ownsWrites_any (S : StV) (V : RuV) (A : RuA) (a : Option Addr) (cap : Nat) (w : World) (hrn : S.rn ≤ 1048576) (hcn : V.cn ≤ 1048576) (hid : V.id ≠ 0) (hr : RiseK (fun q => (S.R q).f0) S.rn) (hs : Sl w a S.rn 6 (recordF S.R)) (hv : Sl w A.ca V.cn 2 (cellF V.cl)) :
    Calls Tryz.prog 63 #[.slice a S.rn cap, .agg #[.int .i64 V.id, .int .i64 V.st, .slice A.la V.ln A.lc, .slice A.ca V.cn A.cc, .int .i64 V.e, .int .i64 V.s, .bool V.b]] w fun r w' => r = .returned (.bool (clB (ownsP S V))) ∧ Below w.heap.size w w' := by
  have HS : Hid (Sl w a S.rn 6 (recordF S.R) ∧ Sl w A.ca V.cn 2 (cellF V.cl) ∧ RiseK (fun q => (S.R q).f0) S.rn ∧ V.id ≠ 0) := ⟨hs, hv, hr, hid⟩
  have HX : Hid (Bx (w.alloc (.cells #[.int .i64 V.id, .int .i64 V.st, .slice A.la V.ln A.lc, .slice A.ca V.cn A.cc, .int .i64 V.e, .int .i64 V.s, .bool V.b] 71)) w.heap.size [.int .i64 V.id, .int .i64 V.st, .slice A.la V.ln A.lc, .slice A.ca V.cn A.cc, .int .i64 V.e, .int .i64 V.s, .bool V.b] ∧ Below w.heap.size w (w.alloc (.cells #[.int .i64 V.id, .int .i64 V.st, .slice A.la V.ln A.lc, .slice A.ca V.cn A.cc, .int .i64 V.e, .int .i64 V.s, .bool V.b] 71))) := ⟨Bx.new w [.int .i64 V.id, .int .i64 V.st, .slice A.la V.ln A.lc, .slice A.ca V.cn A.cc, .int .i64 V.e, .int .i64 V.s, .bool V.b] _, Go.Joins.below_alloc1 _ _⟩
  clear hs hv hr hid
  go_enter Tryz.func63, Tryz.ntmps63
  go_wp2
  go_loopw [10] (fun i wr => ∃ k : Nat, k ≤ V.cn ∧ i = .int .i64 k ∧ (∀ j, j < k → ∃ q, q < S.rn ∧ (S.R q).f0.toList = (V.cl j).f0.toList ∧ (S.R q).f5 = V.id) ∧ Bx wr w.heap.size [.int .i64 V.id, .int .i64 V.st, .slice A.la V.ln A.lc, .slice A.ca V.cn A.cc, .int .i64 V.e, .int .i64 V.s, .bool V.b] ∧ Below w.heap.size w wr) (fun i _ => V.cn - (intOf i).toNat)
  case atStart => exact ⟨0, Nat.zero_le _, rfl, fun i hi => absurd hi (by omega), HX.out.1, HX.out.2⟩
  case round =>
    obtain ⟨k, hk, rfl, hall, hx, hBr⟩ := hrel
    clear HX
    by_cases hlt : k < V.cn
    · rcases HS.out.2.1.below hBr (Nat.le_refl _) with h | ⟨b, off, hca, hbs, hE⟩
      · omega
      have hlt' : (k : Int) < (V.cn : Int) := by omega
      obtain ⟨c0, c1⟩ := cell_cells hE hlt
      have hd : Below wr.heap.size wr (wr.alloc (.cells #[.string (V.cl k).f0, .string (V.cl k).f1] 55)).drew := (Go.Joins.below_alloc1 _ _).drew
      have H1 : Hid (Bx (wr.alloc (.cells #[.string (V.cl k).f0, .string (V.cl k).f1] 55)).drew wr.heap.size [.string (V.cl k).f0, .string (V.cl k).f1] ∧ Bx (wr.alloc (.cells #[.string (V.cl k).f0, .string (V.cl k).f1] 55)).drew w.heap.size [.int .i64 V.id, .int .i64 V.st, .slice A.la V.ln A.lc, .slice A.ca V.cn A.cc, .int .i64 V.e, .int .i64 V.s, .bool V.b] ∧ Below w.heap.size w (wr.alloc (.cells #[.string (V.cl k).f0, .string (V.cl k).f1] 55)).drew) := ⟨(Bx.new wr [.string (V.cl k).f0, .string (V.cl k).f1] 55).next (Below.refl _ _).drew, hx.next hd, below_next' hBr hd⟩
      have HA : Hid (∀ j, j < k → ∃ q, q < S.rn ∧ (S.R q).f0.toList = (V.cl j).f0.toList ∧ (S.R q).f5 = V.id) := hall
      clear hall hBr hE hx hd
      go_upto_region 4 with fail
      refine wp_region_noPanic ?_
      refine wp_region_held_drew (S := fun W => Bx W wr.heap.size [.string (V.cl k).f0, .string (V.cl k).f1] ∧ Bx W w.heap.size [.int .i64 V.id, .int .i64 V.st, .slice A.la V.ln A.lc, .slice A.ca V.cn A.cc, .int .i64 V.e, .int .i64 V.s, .bool V.b]) (by kernel_rfl) ⟨H1.out.1, H1.out.2.1⟩ (fun hHeld => ?_)
      refine take_v (v := ?_) 0 ⟨some 14, Op.move (Operand.tmp 0), _, _, _, none⟩ rfl (fun _ _ _ h => h) ?_ hHeld ?_
      rotate_left
      · (intro W _; go_simp <;> (try with_reducible rfl))
      refine take_v (v := ?_) 1 ⟨some 15, Op.fieldAddr 55 (Operand.tmp 6) 0, _, _, _, none⟩ rfl (fun _ _ _ h => h) ?_ hHeld ?_
      rotate_left
      · (intro W _; go_simp <;> (try with_reducible rfl))
      refine take_v (v := ?_) 2 ⟨some 16, Op.load 9 (Operand.tmp 15), _, _, _, none⟩ rfl (fun _ _ _ h => h) ?_ hHeld ?_
      rotate_left
      · (intro W hSW; (have s0 := hSW.1.cell 0 rfl; have s1 := hSW.2.cell 0 rfl; have s2 := hSW.1.2; have s3 := hSW.2.2); go_simp <;> (try with_reducible rfl))
      refine take_v (v := ?_) 5 ⟨some 19, Op.fieldAddr 71 (Operand.tmp 3) 0, _, _, _, none⟩ rfl (fun _ _ _ h => h) ?_ hHeld ?_
      rotate_left
      · (intro W _; go_simp <;> (try with_reducible rfl))
      refine take_v (v := ?_) 6 ⟨some 20, Op.load 3 (Operand.tmp 19), _, _, _, none⟩ rfl (fun _ _ _ h => h) ?_ hHeld ?_
      rotate_left
      · (intro W hSW; (have s0 := hSW.1.cell 0 rfl; have s1 := hSW.2.cell 0 rfl; have s2 := hSW.1.2; have s3 := hSW.2.2); go_simp <;> (try with_reducible rfl))
      refine ready_call 3 ⟨some 17, Op.call { callee := Callee.value (Operand.func 88), args := #[Operand.tmp 14, Operand.tmp 16], argTypes := #[31, 9] }, _, _, _, none⟩ (by kernel_rfl) rfl (by kernel_rfl) (fun KC hK => ?_)
      go_wp2_with fail
      refine (recordOf_any a S.rn cap S.R (V.cl k).f0 _ hrn (kept' HS.out.1 H1.out.2.2)).mono ?_
      rintro r w2 ⟨o, rfl, hF, hb⟩
      have HF := (show Hid _ from hF HS.out.2.2.1)
      have H2 : Hid (Bx w2 wr.heap.size [.string (V.cl k).f0, .string (V.cl k).f1] ∧ Bx w2 w.heap.size [.int .i64 V.id, .int .i64 V.st, .slice A.la V.ln A.lc, .slice A.ca V.cn A.cc, .int .i64 V.e, .int .i64 V.s, .bool V.b] ∧ Below w.heap.size w w2) := ⟨H1.out.1.next hb, H1.out.2.1.next hb, below_next' H1.out.2.2 hb⟩
      clear hb hF
      have hf : ∀ W : World, (Instr.field 52 (.agg #[.string o.f0, .string o.f1, .int .i64 o.f2, .int .i64 o.f3, .bool o.f4, .int .i64 o.f5]) 3).run Tryz.prog W = .ok (.int .i64 o.f5) W := fun W => by kernel_rfl
      refine hK.out _ _ ⟨H2.out.1, H2.out.2.1⟩ (fun hHeld => ?_)
      clear hK KC
      refine take_v (v := ?_) 4 ⟨some 18, Op.field 52 (Operand.tmp 17) 3, _, _, _, none⟩ rfl (fun _ _ _ h => h) ?_ hHeld ?_
      rotate_left
      · (intro W _; go_simp <;> (try with_reducible rfl))
      refine take_v (v := ?_) 7 ⟨some 21, Op.binOp BinOp.neq 3 (Operand.tmp 18) (Operand.tmp 20) 3, _, _, _, none⟩ rfl (fun _ _ _ h => h) ?_ hHeld ?_
      rotate_left
      · (intro W _; go_simp <;> (try with_reducible rfl))
      refine wpAnyH_done (by kernel_rfl) ?_ _
      refine NoPanic.normal ?_
      clear hf
      cases e : (o.f5 != V.id)
      · have HY : Hid (∃ q, q < S.rn ∧ (S.R q).f0.toList = (V.cl k).f0.toList ∧ (S.R q).f5 = V.id) := by
          have e' : o.f5 = V.id := by simpa using e
          rcases HF.out with ⟨q, h1, h2, h3⟩ | ⟨h1, _⟩
          · exact ⟨q, h1, h2, by rw [← h3]; exact e'⟩
          · rw [h1] at e'; exact absurd e'.symm HS.out.2.2.2
        go_wp2
        go_roundw
        case rel => exact ⟨k + 1, by omega, by go_num, upto_succ HA.out HY.out, H2.out.2.1, H2.out.2.2⟩
        case measure => simp [intOf]; omega
      · have HN : Hid (clB (ownsP S V) = false) := clB_no fun g => by
          obtain ⟨q, h1, h2, h3⟩ := g k hlt
          have e' : o.f5 ≠ V.id := by simpa using e
          rcases HF.out with ⟨q', g1, g2, g3⟩ | ⟨_, g⟩
          · have : q' = q := riseK_ne HS.out.2.2.1 g1 h1 (g2.trans h2.symm)
            subst this
            exact e' (by rw [g3]; exact h3)
          · exact g q h1 h2
        go_wp2
        go_ret
        exact ⟨ret_bool HN.out.symm, H2.out.2.2⟩
    · have hkn : k = V.cn := by omega
      have HN : Hid (clB (ownsP S V) = true) := clB_yes (by rw [hkn] at hall; exact hall)
      have HB : Hid (Below w.heap.size w wr) := hBr
      have hlt' : ¬ (k : Int) < (V.cn : Int) := by omega
      clear hall hBr hx hkn
      go_wp2
      go_ret
      exact ⟨ret_bool HN.out.symm, HB.out⟩

def OwnPost (S : StV) (r : RecordV) (w : World) (e : Ending) (w' : World) : Prop :=
  ∃ b : Bool, e = .returned (.bool b) ∧ (b = true → ownP S r) ∧ (b = false → ¬ ownP S r ∨ ∃ q, q < S.tn ∧ ¬ RiseK (fun x => ((S.T q).cl x).f0) (S.T q).cn) ∧ Below w.heap.size w w'
theorem own_at {S : StV} {r : RecordV} {q : Nat} (h0 : r.f5 ≠ 0) (hq : r.f5 = (q : Int) + 1) (h : ownP S r) : mayB (S.T q).st = true ∧ writesP (S.T q) r.f0 := by
  rcases h with ⟨h, _⟩ | ⟨_, _, q', h1, h2, h3⟩
  · exact absurd h h0
  · have : q' = q := by omega
    subst this; exact h3
set_option maxRecDepth 100000 in
set_option maxHeartbeats 4000000 in
theorem isOwned_any (S : StV) (A : StA) (r : RecordV) (w : World) (hok : StOk S) (hs : RuS w A.ta S.tn S.T A.U) :
    Calls Tryz.prog 60 #[.agg #[.string r.f0, .string r.f1, .int .i64 r.f2, .int .i64 r.f3, .bool r.f4, .int .i64 r.f5], .slice A.ta S.tn A.tc] w fun e w' => OwnPost S r w e w' := by
  have HS : Hid (RuS w A.ta S.tn S.T A.U ∧ StOk S) := ⟨hs, hok⟩
  clear hs hok
  have HX : Hid (Bx (w.alloc (.cells #[.string r.f0, .string r.f1, .int .i64 r.f2, .int .i64 r.f3, .bool r.f4, .int .i64 r.f5] 52)) w.heap.size [.string r.f0, .string r.f1, .int .i64 r.f2, .int .i64 r.f3, .bool r.f4, .int .i64 r.f5] ∧ Below w.heap.size w (w.alloc (.cells #[.string r.f0, .string r.f1, .int .i64 r.f2, .int .i64 r.f3, .bool r.f4, .int .i64 r.f5] 52))) := ⟨Bx.new w [.string r.f0, .string r.f1, .int .i64 r.f2, .int .i64 r.f3, .bool r.f4, .int .i64 r.f5] _, Go.Joins.below_alloc1 _ _⟩
  cases e1 : (r.f5 == 0)
  case true =>
    have h0 : r.f5 = 0 := by simpa using e1
    cases e2 : r.f4
    · rw [e2] at HX
      go_enter Tryz.func60, Tryz.ntmps60
      go_wp2
      go_ret
      exact ⟨true, rfl, fun _ => Or.inl ⟨h0, e2⟩, fun h => (by cases h), Go.Joins.below_alloc1 _ _⟩
    · rw [e2] at HX
      go_enter Tryz.func60, Tryz.ntmps60
      go_wp2
      go_ret
      exact ⟨false, rfl, fun h => (by cases h), fun _ => Or.inl (fun g => by rcases g with ⟨_, g⟩ | ⟨g, _⟩; rw [e2] at g; cases g; exact g h0), Go.Joins.below_alloc1 _ _⟩
  have h0 : r.f5 ≠ 0 := by simpa using e1
  cases e2 : r.f4
  · rw [e2] at HX
    go_enter Tryz.func60, Tryz.ntmps60
    go_wp2
    go_ret
    exact ⟨false, rfl, fun h => (by cases h), fun _ => Or.inl (fun g => by rcases g with ⟨g, _⟩ | ⟨_, g, _⟩; exact h0 g; rw [e2] at g; cases g), Go.Joins.below_alloc1 _ _⟩
  rw [e2] at HX
  cases e3 : inR r.f5 1 (S.tn : Int)
  · go_enter Tryz.func60, Tryz.ntmps60
    go_wp2_with (go_at_call 40; refine (inRange_any _ _ _ _).mono ?_; rintro e w' ⟨rfl, rfl⟩)
    go_ret
    refine ⟨false, rfl, fun h => (by cases h), fun _ => Or.inl (fun g => ?_), HX.out.2⟩
    rcases g with ⟨g, _⟩ | ⟨_, _, q, g1, g2, _⟩
    · exact h0 g
    · rw [inR_iff.2 ⟨by omega, by omega⟩] at e3; cases e3
  have hb := inR_iff.1 e3
  obtain ⟨q, hq⟩ : ∃ q : Nat, r.f5 = (q : Int) + 1 := ⟨(r.f5 - 1).toNat, by omega⟩
  have hqn : q < S.tn := by omega
  have hqn' : (q : Int) < (S.tn : Int) := by omega
  have hsub : IntKind.i64.wrap (r.f5 - 1) = (q : Int) := by
    have := HS.out.2.2.1.1
    rw [IntKind.wrap_i64]; omega
  have HQ : Hid (r.f5 = (q : Int) + 1 ∧ r.f5 ≠ 0 ∧ r.f4 = true) := ⟨hq, h0, e2⟩
  have hs1 := HS.out.1.next HX.out.2
  have hs0 := HS.out.1
  have HU : Hid (Sl (w.alloc (.cells #[.string r.f0, .string r.f1, .int .i64 r.f2, .int .i64 r.f3, .bool true, .int .i64 r.f5] 52)) (A.U q).ca (S.T q).cn 2 (cellF (S.T q).cl)) := (hs1.2 q hqn).2.1
  rcases hs0.1 with h | ⟨b, off, hta, hbs, hE⟩
  · omega
  obtain ⟨c0, c1, c2, c3, c4, c5, c6⟩ := ru_cells hE hqn
  have HW : Hid (Bx ((w.alloc (.cells #[.string r.f0, .string r.f1, .int .i64 r.f2, .int .i64 r.f3, .bool true, .int .i64 r.f5] 52)).alloc (.cells #[.int .i64 (S.T q).id, .int .i64 (S.T q).st, .slice (A.U q).la (S.T q).ln (A.U q).lc, .slice (A.U q).ca (S.T q).cn (A.U q).cc, .int .i64 (S.T q).e, .int .i64 (S.T q).s, .bool (S.T q).b] 71)) (w.heap.size + 1) [.int .i64 (S.T q).id, .int .i64 (S.T q).st, .slice (A.U q).la (S.T q).ln (A.U q).lc, .slice (A.U q).ca (S.T q).cn (A.U q).cc, .int .i64 (S.T q).e, .int .i64 (S.T q).s, .bool (S.T q).b]) := by
    have := Bx.new (w.alloc (.cells #[.string r.f0, .string r.f1, .int .i64 r.f2, .int .i64 r.f3, .bool true, .int .i64 r.f5] 52)) [.int .i64 (S.T q).id, .int .i64 (S.T q).st, .slice (A.U q).la (S.T q).ln (A.U q).lc, .slice (A.U q).ca (S.T q).cn (A.U q).cc, .int .i64 (S.T q).e, .int .i64 (S.T q).s, .bool (S.T q).b] 71
    rw [World.size_alloc] at this
    exact this
  have HB1 : Hid (Below (w.alloc (.cells #[.string r.f0, .string r.f1, .int .i64 r.f2, .int .i64 r.f3, .bool true, .int .i64 r.f5] 52)).heap.size (w.alloc (.cells #[.string r.f0, .string r.f1, .int .i64 r.f2, .int .i64 r.f3, .bool true, .int .i64 r.f5] 52)) ((w.alloc (.cells #[.string r.f0, .string r.f1, .int .i64 r.f2, .int .i64 r.f3, .bool true, .int .i64 r.f5] 52)).alloc (.cells #[.int .i64 (S.T q).id, .int .i64 (S.T q).st, .slice (A.U q).la (S.T q).ln (A.U q).lc, .slice (A.U q).ca (S.T q).cn (A.U q).cc, .int .i64 (S.T q).e, .int .i64 (S.T q).s, .bool (S.T q).b] 71))) := Go.Joins.below_alloc1 _ _
  clear hs1 hs0 hE hb hq h0
  rw [hta]
  go_enter Tryz.func60, Tryz.ntmps60
  go_wp2_with (go_at_call 40; refine (inRange_any _ _ _ _).mono ?_; rintro e w' ⟨rfl, rfl⟩)
  refine (cellPlace_any _ _ _ (S.T q).cl r.f0 _ (HS.out.2.2.1.2 q hqn).2 (kept' HU.out HB1.out)).mono ?_
  rintro e w1 ⟨p, f, rfl, hp, hb⟩
  have HP : Hid (Placed (fun x => ((S.T q).cl x).f0) (S.T q).cn r.f0 p f ∧ Below w.heap.size w w1) := ⟨hp, below_next' (below_next' HX.out.2 HB1.out) hb⟩
  have d1 := (HW.out.next hb).cell 1 rfl
  have dz := (HW.out.next hb).2
  clear hp hb HW HU HX HB1 c0 c1 c2 c3 c4 c5 c6
  have HT : Hid (f = true → writesP (S.T q) r.f0) := fun e => ⟨p, HP.out.1.2.1 e⟩
  cases e4 : mayB (S.T q).st
  · go_wp2_with (go_at_call 62; refine (mayOwn_any _ _).mono ?_; rintro e w' ⟨rfl, rfl⟩)
    go_ret
    exact ⟨false, rfl, fun h => (by cases h), fun _ => Or.inl (fun g => by have := (own_at HQ.out.2.1 HQ.out.1 g).1; rw [e4] at this; cases this), HP.out.2⟩
  · go_wp2_with (go_at_call 62; refine (mayOwn_any _ _).mono ?_; rintro e w' ⟨rfl, rfl⟩)
    go_ret
    refine ⟨f, rfl, fun h => Or.inr ⟨HQ.out.2.1, HQ.out.2.2, q, hqn, HQ.out.1, e4, HT.out h⟩, fun h => ?_, HP.out.2⟩
    by_cases hr : RiseK (fun x => ((S.T q).cl x).f0) (S.T q).cn
    · left
      intro g
      obtain ⟨j, h1, h2⟩ := (own_at HQ.out.2.1 HQ.out.1 g).2
      exact (HP.out.1.2.2 hr).2.2 h j h1 h2
    · exact Or.inr ⟨q, hqn, hr⟩
end Go.Proofs.YtenfaofhoheleaaGreat
