/- The contract of GoodStore. -/
import Derived.Test.YtenfaofhoheleaaGreatGsE
namespace Go.Proofs.YtenfaofhoheleaaGreat
open Go.RowKit
set_option linter.unusedVariables false

theorem ids_sl {w : World} {base : Nat} {e : TypeId} {v : Value} {L : List Int} (h : w.ownsRow base e 1 v L.length (L.map (Value.int .i64))) : ∃ a c, v = .slice a L.length c ∧ Sl w a L.length 1 (intF fun i => L.getD i 0) := by
  rcases Nat.eq_zero_or_pos L.length with h0 | h0
  · rw [h0] at h ⊢
    obtain ⟨a, c, rfl⟩ := own0 h
    exact ⟨a, c, rfl, Or.inl rfl⟩
  · obtain ⟨g, cap5, rfl⟩ := Go.Joins.ownsRow_form h h0
    refine ⟨_, cap5, rfl, Or.inr ⟨g, 0, rfl, (h.lt g rfl).2, fun i hi j hj => ?_⟩⟩
    have hj0 : j = 0 := by omega
    subst hj0
    have := World.ownsRow.cellAt h i (by omega)
    rw [show 0 + i * 1 + 0 = i by omega, this]
    simp [intF, hi]
theorem lstN_getD' (L : List Int) : lstN (fun i => L.getD i 0) L.length = L := by
  apply List.ext_getElem
  · simp [lstN]
  · intro i h1 h2
    simp [lstN, List.getElem?_eq_getElem h2]
theorem ord_is {S : StV} (h : ∀ i, i < S.tn → (S.T i).id = (i : Int) + 1) : clB (ordP S) = eachB S.O S.on (idsL S.T S.tn) := by
  refine clB_eq ?_
  rw [each_iff (idsL_rise h)]
  constructor
  · rintro ⟨h1, h2⟩
    exact ⟨h1, fun i hi => ⟨(ord_mem h).2 (h2 i hi).1, (h2 i hi).2⟩⟩
  · rintro ⟨h1, h2⟩
    exact ⟨h1, fun i hi => ⟨(ord_mem h).1 (h2 i hi).1, (h2 i hi).2⟩⟩

set_option maxRecDepth 100000 in
set_option maxHeartbeats 4000000 in
theorem goodStore_at (ra : Option Addr) (rc : Nat) (ta : Option Addr) (tc : Nat) (oa : Option Addr) (oc : Nat) (U : Nat → RuA) (S : StV) (w : World) (hl : StLen S) (hok : StOk S) (hs : StAt w ⟨ra, rc, ta, tc, oa, oc, U⟩ S) :
    Calls Tryz.prog 28 #[.agg #[.int .i64 S.ep, .slice ra S.rn rc, .slice ta S.tn tc, .slice oa S.on oc]] w fun r w' => r = .returned (.bool (goodB S)) ∧ Below w.heap.size w w' := by
  have HS : Hid (StAt w ⟨ra, rc, ta, tc, oa, oc, U⟩ S ∧ StLen S ∧ StOk S) := ⟨hs, hl, hok⟩
  clear hs hl hok
  have HX : Hid (Bx (w.alloc (.cells #[.int .i64 S.ep, .slice ra S.rn rc, .slice ta S.tn tc, .slice oa S.on oc] 34)) w.heap.size [.int .i64 S.ep, .slice ra S.rn rc, .slice ta S.tn tc, .slice oa S.on oc] ∧ Below w.heap.size w (w.alloc (.cells #[.int .i64 S.ep, .slice ra S.rn rc, .slice ta S.tn tc, .slice oa S.on oc] 34))) := ⟨Bx.new w [.int .i64 S.ep, .slice ra S.rn rc, .slice ta S.tn tc, .slice oa S.on oc] _, Go.Joins.below_alloc1 _ _⟩
  cases e1 : inR S.ep 1 1000
  · have HN : Hid (goodB S = false) := no_head fun g => by rw [g.1] at e1; cases e1
    go_enter Tryz.func28, Tryz.ntmps28
    go_wp2_with (go_at_call 40; refine (inRange_any _ _ _ _).mono ?_; rintro e w' ⟨rfl, rfl⟩)
    go_ret
    exact ⟨ret_bool HN.out.symm, HX.out.2⟩
  have hrn := HS.out.2.2.1
  have htn := HS.out.2.2.2.1.1
  by_cases h40 : S.rn ≤ 40
  case neg =>
    have h40' : (40 : Int) < (S.rn : Int) := by omega
    have HN : Hid (goodB S = false) := no_head fun g => h40 g.2.1
    go_enter Tryz.func28, Tryz.ntmps28
    go_wp2_with (go_at_call 40; refine (inRange_any _ _ _ _).mono ?_; rintro e w' ⟨rfl, rfl⟩)
    go_ret
    exact ⟨ret_bool HN.out.symm, HX.out.2⟩
  have h40' : decide ((40 : Int) < (S.rn : Int)) = false := by simp; omega
  have h40n : decide (40 < S.rn) = false := by simp; omega
  by_cases h20 : S.tn ≤ 20
  case neg =>
    have h20' : (20 : Int) < (S.tn : Int) := by omega
    have HN : Hid (goodB S = false) := no_head fun g => h20 g.2.2
    go_enter Tryz.func28, Tryz.ntmps28
    go_wp2_with (go_at_call 40; refine (inRange_any _ _ _ _).mono ?_; rintro e w' ⟨rfl, rfl⟩)
    go_ret
    exact ⟨ret_bool HN.out.symm, HX.out.2⟩
  have h20' : decide ((20 : Int) < (S.tn : Int)) = false := by simp; omega
  have h20n : decide (20 < S.tn) = false := by simp; omega
  have HH : Hid (headP S) := ⟨e1, h40, h20⟩
  have HI : Hid (∀ W, Calls Tryz.prog 40 #[.int .i64 S.ep, .int .i64 1, .int .i64 1000] W fun r w' => r = .returned (.bool true) ∧ w' = W) := fun W => by have := inRange_any S.ep 1 1000 W; rw [e1] at this; exact this
  clear e1
  go_enter Tryz.func28, Tryz.ntmps28
  go_wp2_with (go_at_call 40; refine (HI.out _).mono ?_; rintro e w' ⟨rfl, rfl⟩)
  go_loopw [26] (fun i wr => ∃ k : Nat, k ≤ S.rn ∧ i = .int .i64 k ∧ (∀ i, i < k → recP S i) ∧ Bx wr w.heap.size [.int .i64 S.ep, .slice ra S.rn rc, .slice ta S.tn tc, .slice oa S.on oc] ∧ Below w.heap.size w wr) (fun i _ => S.rn - (intOf i).toNat)
  case atStart => exact ⟨0, Nat.zero_le _, rfl, fun i hi => absurd hi (by omega), HX.out.1, HX.out.2⟩
  case round =>
    obtain ⟨k, hk, rfl, hall, hx, hBr⟩ := hrel
    clear HX
    by_cases hlt : k < S.rn
    · have hsl : Sl wr ra S.rn 6 (recordF S.R) := HS.out.1.1.below hBr (Nat.le_refl _)
      rcases hsl with h | ⟨b, off, rfl, hbs, hE⟩
      · omega
      have hlt' : (k : Int) < (S.rn : Int) := by omega
      obtain ⟨c0, c1, c2, c3, c4, c5⟩ := record_cells hE hlt
      have hd : Below wr.heap.size wr (wr.alloc (.cells #[.string (S.R k).f0, .string (S.R k).f1, .int .i64 (S.R k).f2, .int .i64 (S.R k).f3, .bool (S.R k).f4, .int .i64 (S.R k).f5] 52)) := Go.Joins.below_alloc1 _ _
      have H0 : Hid (Bx (wr.alloc (.cells #[.string (S.R k).f0, .string (S.R k).f1, .int .i64 (S.R k).f2, .int .i64 (S.R k).f3, .bool (S.R k).f4, .int .i64 (S.R k).f5] 52)) wr.heap.size [.string (S.R k).f0, .string (S.R k).f1, .int .i64 (S.R k).f2, .int .i64 (S.R k).f3, .bool (S.R k).f4, .int .i64 (S.R k).f5] ∧ Bx (wr.alloc (.cells #[.string (S.R k).f0, .string (S.R k).f1, .int .i64 (S.R k).f2, .int .i64 (S.R k).f3, .bool (S.R k).f4, .int .i64 (S.R k).f5] 52)) w.heap.size [.int .i64 S.ep, .slice (some ⟨b, off, none⟩) S.rn rc, .slice ta S.tn tc, .slice oa S.on oc] ∧ Below w.heap.size w (wr.alloc (.cells #[.string (S.R k).f0, .string (S.R k).f1, .int .i64 (S.R k).f2, .int .i64 (S.R k).f3, .bool (S.R k).f4, .int .i64 (S.R k).f5] 52)) ∧ (∀ i, i < k → recP S i) ∧ Elems (wr.alloc (.cells #[.string (S.R k).f0, .string (S.R k).f1, .int .i64 (S.R k).f2, .int .i64 (S.R k).f3, .bool (S.R k).f4, .int .i64 (S.R k).f5] 52)) b off S.rn 6 (recordF S.R) ∧ b < (wr.alloc (.cells #[.string (S.R k).f0, .string (S.R k).f1, .int .i64 (S.R k).f2, .int .i64 (S.R k).f3, .bool (S.R k).f4, .int .i64 (S.R k).f5] 52)).heap.size) := ⟨Bx.new wr [.string (S.R k).f0, .string (S.R k).f1, .int .i64 (S.R k).f2, .int .i64 (S.R k).f3, .bool (S.R k).f4, .int .i64 (S.R k).f5] _, hx.next hd, below_next' hBr hd, hall, hE.below hd hbs, Nat.lt_of_lt_of_le hbs hd.size⟩
      have g0 := H0.out.2.1.cell 0 rfl
      have gz := H0.out.2.1.2
      clear hall hBr hE hx hd hbs
      go_wp2_with fail
      refine (isRecord_any (S.R k) S.ep _ (HS.out.2.1.2.2.2.1 k hlt).1 (HS.out.2.1.2.2.2.1 k hlt).2).mono ?_
      rintro r w1 ⟨rfl, hb⟩
      have H1 : Hid (Bx w1 wr.heap.size [.string (S.R k).f0, .string (S.R k).f1, .int .i64 (S.R k).f2, .int .i64 (S.R k).f3, .bool (S.R k).f4, .int .i64 (S.R k).f5] ∧ Bx w1 w.heap.size [.int .i64 S.ep, .slice (some ⟨b, off, none⟩) S.rn rc, .slice ta S.tn tc, .slice oa S.on oc] ∧ Below w.heap.size w w1 ∧ (∀ i, i < k → recP S i) ∧ Elems w1 b off S.rn 6 (recordF S.R) ∧ b < w1.heap.size) := ⟨H0.out.1.next hb, H0.out.2.1.next hb, below_next' H0.out.2.2.1 hb, H0.out.2.2.2.1, H0.out.2.2.2.2.1.below hb H0.out.2.2.2.2.2, Nat.lt_of_lt_of_le H0.out.2.2.2.2.2 hb.size⟩
      clear hb H0 c0 c1 c2 c3 c4 c5 g0 gz
      have d0 := H1.out.1.cell 0 rfl
      have d1 := H1.out.1.cell 1 rfl
      have d2 := H1.out.1.cell 2 rfl
      have d3 := H1.out.1.cell 3 rfl
      have d4 := H1.out.1.cell 4 rfl
      have d5 := H1.out.1.cell 5 rfl
      have dz := H1.out.1.2
      have g2 := H1.out.2.1.cell 2 rfl
      have gz := H1.out.2.1.2
      cases e2 : recOk S.ep (S.R k)
      · have HN : Hid (goodB S = false) := no_rec hlt fun g => by rw [g.1] at e2; cases e2
        go_wp2
        go_ret
        exact ⟨ret_bool HN.out.symm, H1.out.2.2.1⟩
      go_wp2_with fail
      refine (isOwned_any S ⟨(some ⟨b, off, none⟩), rc, ta, tc, oa, oc, U⟩ (S.R k) _ HS.out.2.2 (HS.out.1.next H1.out.2.2.1).2.1).mono ?_
      rintro r w2 ⟨f, rfl, hf1, hf2, hb⟩
      have H2 : Hid (Bx w2 wr.heap.size [.string (S.R k).f0, .string (S.R k).f1, .int .i64 (S.R k).f2, .int .i64 (S.R k).f3, .bool (S.R k).f4, .int .i64 (S.R k).f5] ∧ Bx w2 w.heap.size [.int .i64 S.ep, .slice (some ⟨b, off, none⟩) S.rn rc, .slice ta S.tn tc, .slice oa S.on oc] ∧ Below w.heap.size w w2 ∧ (∀ i, i < k → recP S i) ∧ Elems w2 b off S.rn 6 (recordF S.R) ∧ b < w2.heap.size) := ⟨H1.out.1.next hb, H1.out.2.1.next hb, below_next' H1.out.2.2.1 hb, H1.out.2.2.2.1, H1.out.2.2.2.2.1.below hb H1.out.2.2.2.2.2, Nat.lt_of_lt_of_le H1.out.2.2.2.2.2 hb.size⟩
      clear hb H1 d0 d1 d2 d3 d4 d5 dz g2 gz
      cases f
      · have HN : Hid (goodB S = false) := by
          rcases hf2 rfl with h | ⟨q, h1, h2⟩
          · exact no_rec hlt fun g => h g.2.1
          · exact no_cells h1 h2
        clear hf1 hf2
        go_wp2
        go_ret
        exact ⟨ret_bool HN.out.symm, H2.out.2.2.1⟩
      have HO : Hid (ownP S (S.R k)) := hf1 rfl
      clear hf1 hf2
      have hdr : Below w2.heap.size w2 w2.drew := (Below.refl _ _).drew
      have H2d : Hid (Bx w2.drew wr.heap.size [.string (S.R k).f0, .string (S.R k).f1, .int .i64 (S.R k).f2, .int .i64 (S.R k).f3, .bool (S.R k).f4, .int .i64 (S.R k).f5] ∧ Bx w2.drew w.heap.size [.int .i64 S.ep, .slice (some ⟨b, off, none⟩) S.rn rc, .slice ta S.tn tc, .slice oa S.on oc] ∧ Below w.heap.size w w2.drew ∧ (∀ i, i < k → recP S i)) := ⟨H2.out.1.next hdr, H2.out.2.1.next hdr, below_next' H2.out.2.2.1 hdr, H2.out.2.2.2.1⟩
      have HE : Hid (∀ q, q < S.rn → w2.drew.cell? ⟨b, off + q * 6, none⟩ = some (.string (S.R q).f0)) := fun q hq => (hdr.cell (p := ⟨b, off + q * 6, none⟩) H2.out.2.2.2.2.2).trans (record_cells H2.out.2.2.2.2.1 hq).1
      clear H2 hdr
      by_cases hk0 : k = 0
      · have hk0' : decide ((0 : Int) < (k : Int)) = false := by simp; omega
        have hk0n : decide (0 < k) = false := by simp; omega
        have HY : Hid (recP S k) := ⟨e2, HO.out, fun h => absurd h (by omega)⟩
        clear HE hk0
        go_upto_region 8 with fail
        refine wp_region_noPanic ?_
        refine wp_region_held_drew (S := fun W => Bx W wr.heap.size [.string (S.R k).f0, .string (S.R k).f1, .int .i64 (S.R k).f2, .int .i64 (S.R k).f3, .bool (S.R k).f4, .int .i64 (S.R k).f5] ∧ Bx W w.heap.size [.int .i64 S.ep, .slice (some ⟨b, off, none⟩) S.rn rc, .slice ta S.tn tc, .slice oa S.on oc]) (by kernel_rfl) ⟨H2d.out.1, H2d.out.2.1⟩ (fun hHeld => ?_)
        refine take_v (v := ?_) 0 ⟨some 43, Op.move (Operand.tmp 3), _, _, _, none⟩ rfl (fun _ _ _ h => h) ?_ hHeld ?_
        rotate_left
        · (intro W _; go_simp <;> (try with_reducible rfl))
        refine take_v (v := ?_) 1 ⟨some 44, Op.binOp BinOp.gtr 3 (Operand.tmp 43) (Operand.const (Value.int IntKind.i64 0)) 3, _, _, _, none⟩ rfl (fun _ _ _ h => h) ?_ hHeld ?_
        rotate_left
        · (intro W _; go_simp <;> (try with_reducible rfl))
        refine take_v (v := ?_) 2 ⟨some 45, Op.move (Operand.tmp 44), _, _, _, none⟩ rfl (fun _ _ _ h => h) ?_ hHeld ?_
        rotate_left
        · (intro W _; go_simp <;> (try with_reducible rfl))
        refine take_n 3 ⟨some 46, Op.fieldAddr 34 (Operand.tmp 1) 1, _, _, _, some (2, true)⟩ rfl (fun _ _ _ h => h) hHeld ?_
        refine take_n 4 ⟨some 47, Op.load 31 (Operand.tmp 46), _, _, _, some (2, true)⟩ rfl (fun _ _ _ h => h) hHeld ?_
        refine take_n 5 ⟨some 48, Op.move (Operand.tmp 3), _, _, _, some (2, true)⟩ rfl (fun _ _ _ h => h) hHeld ?_
        refine take_n 6 ⟨some 49, Op.binOp BinOp.sub 3 (Operand.tmp 48) (Operand.const (Value.int IntKind.i64 1)) 3, _, _, _, some (2, true)⟩ rfl (fun _ _ _ h => h) hHeld ?_
        refine take_n 7 ⟨some 50, Op.indexAddr 31 (Operand.tmp 47) (Operand.tmp 49), _, _, _, some (2, true)⟩ rfl (fun _ _ _ h => h) hHeld ?_
        refine take_n 8 ⟨some 51, Op.fieldAddr 52 (Operand.tmp 50) 0, _, _, _, some (2, true)⟩ rfl (fun _ _ _ h => h) hHeld ?_
        refine take_n 9 ⟨some 52, Op.load 9 (Operand.tmp 51), _, _, _, some (2, true)⟩ rfl (fun _ _ _ h => h) hHeld ?_
        refine take_n 10 ⟨some 53, Op.fieldAddr 52 (Operand.tmp 4) 0, _, _, _, some (2, true)⟩ rfl (fun _ _ _ h => h) hHeld ?_
        refine take_n 11 ⟨some 54, Op.load 9 (Operand.tmp 53), _, _, _, some (2, true)⟩ rfl (fun _ _ _ h => h) hHeld ?_
        refine take_n 12 ⟨some 55, Op.binOp BinOp.geq 9 (Operand.tmp 52) (Operand.tmp 54) 9, _, _, _, some (2, true)⟩ rfl (fun _ _ _ h => h) hHeld ?_
        refine take_v (v := ?_) 13 ⟨some 56, Op.pick (Operand.tmp 45) (Operand.tmp 55) (Operand.const (Value.bool false)), _, _, _, none⟩ rfl (fun _ _ _ h => h) ?_ hHeld ?_
        rotate_left
        · (intro W _; go_simp <;> (try with_reducible rfl))
        refine wpAnyH_done (by kernel_rfl) ?_ _
        refine NoPanic.normal ?_
        go_wp2
        go_roundw
        case rel => exact ⟨k + 1, by omega, by go_num, upto_succ H2d.out.2.2.2 HY.out, H2d.out.2.1, H2d.out.2.2.1⟩
        case measure => simp [intOf]; omega
      · obtain ⟨q, hq⟩ : ∃ q, q = k - 1 := ⟨_, rfl⟩
        have hwq : IntKind.i64.wrap ((k : Int) - 1) = (q : Int) := by rw [IntKind.wrap_i64]; omega
        have HQ : Hid (k = q + 1) := by show k = q + 1; omega
        have hq0 : (0 : Int) < (k : Int) := by omega
        have hq0n : decide (0 < k) = true := by simp; omega
        have hqn : (q : Int) < (S.rn : Int) := by omega
        have HQ1 := (show Hid _ from HE.out q (by omega))
        clear HE hk0 hq
        have HC : Hid (recP S k ↔ Op.bytesLess (S.R q).f0.toList (S.R k).f0.toList = true) := by
          show _ ↔ _
          have : k - 1 = q := by have := HQ.out; omega
          constructor
          · intro g; have := g.2.2 (by omega); rwa [‹k - 1 = q›] at this
          · intro g; exact ⟨e2, HO.out, fun _ => by rw [‹k - 1 = q›]; exact g⟩
        cases e3 : Op.bytesLess (S.R q).f0.toList (S.R k).f0.toList
        · have HN : Hid (goodB S = false) := no_rec hlt (fun g => by rw [HC.out.1 g] at e3; cases e3)
          go_upto_region 8 with fail
          refine wp_region_noPanic ?_
          refine wp_region_held_drew (S := fun W => Bx W wr.heap.size [.string (S.R k).f0, .string (S.R k).f1, .int .i64 (S.R k).f2, .int .i64 (S.R k).f3, .bool (S.R k).f4, .int .i64 (S.R k).f5] ∧ Bx W w.heap.size [.int .i64 S.ep, .slice (some ⟨b, off, none⟩) S.rn rc, .slice ta S.tn tc, .slice oa S.on oc] ∧ W.cell? ⟨b, off + q * 6, none⟩ = some (.string (S.R q).f0)) (by kernel_rfl) ⟨H2d.out.1, H2d.out.2.1, HQ1.out⟩ (fun hHeld => ?_)
          refine take_v (v := ?_) 0 ⟨some 43, Op.move (Operand.tmp 3), _, _, _, none⟩ rfl (fun _ _ _ h => h) ?_ hHeld ?_
          rotate_left
          · (intro W _; go_simp <;> (try with_reducible rfl))
          refine take_v (v := ?_) 1 ⟨some 44, Op.binOp BinOp.gtr 3 (Operand.tmp 43) (Operand.const (Value.int IntKind.i64 0)) 3, _, _, _, none⟩ rfl (fun _ _ _ h => h) ?_ hHeld ?_
          rotate_left
          · (intro W _; go_simp <;> (try with_reducible rfl))
          refine take_v (v := ?_) 2 ⟨some 45, Op.move (Operand.tmp 44), _, _, _, none⟩ rfl (fun _ _ _ h => h) ?_ hHeld ?_
          rotate_left
          · (intro W _; go_simp <;> (try with_reducible rfl))
          refine take_v (v := ?_) 3 ⟨some 46, Op.fieldAddr 34 (Operand.tmp 1) 1, _, _, _, some (2, true)⟩ rfl (fun _ _ _ h => h) ?_ hHeld ?_
          rotate_left
          · (intro W _; go_simp <;> (try with_reducible rfl))
          refine take_v (v := ?_) 4 ⟨some 47, Op.load 31 (Operand.tmp 46), _, _, _, some (2, true)⟩ rfl (fun _ _ _ h => h) ?_ hHeld ?_
          rotate_left
          · (intro W hSW; (have s0 := hSW.1.cell 0 rfl; have s1 := hSW.1.2; have s2 := hSW.2.1.cell 1 rfl; have s3 := hSW.2.1.2; have s4 := hSW.2.2); go_simp <;> (try with_reducible rfl))
          refine take_v (v := ?_) 5 ⟨some 48, Op.move (Operand.tmp 3), _, _, _, some (2, true)⟩ rfl (fun _ _ _ h => h) ?_ hHeld ?_
          rotate_left
          · (intro W _; go_simp <;> (try with_reducible rfl))
          refine take_v (v := ?_) 6 ⟨some 49, Op.binOp BinOp.sub 3 (Operand.tmp 48) (Operand.const (Value.int IntKind.i64 1)) 3, _, _, _, some (2, true)⟩ rfl (fun _ _ _ h => h) ?_ hHeld ?_
          rotate_left
          · (intro W _; go_simp <;> (try with_reducible rfl))
          refine take_v (v := ?_) 7 ⟨some 50, Op.indexAddr 31 (Operand.tmp 47) (Operand.tmp 49), _, _, _, some (2, true)⟩ rfl (fun _ _ _ h => h) ?_ hHeld ?_
          rotate_left
          · (intro W _; go_simp <;> (try with_reducible rfl))
          refine take_v (v := ?_) 8 ⟨some 51, Op.fieldAddr 52 (Operand.tmp 50) 0, _, _, _, some (2, true)⟩ rfl (fun _ _ _ h => h) ?_ hHeld ?_
          rotate_left
          · (intro W _; go_simp <;> (try with_reducible rfl))
          refine take_v (v := ?_) 9 ⟨some 52, Op.load 9 (Operand.tmp 51), _, _, _, some (2, true)⟩ rfl (fun _ _ _ h => h) ?_ hHeld ?_
          rotate_left
          · (intro W hSW; (have s0 := hSW.1.cell 0 rfl; have s1 := hSW.1.2; have s2 := hSW.2.1.cell 1 rfl; have s3 := hSW.2.1.2; have s4 := hSW.2.2); go_simp <;> (try with_reducible rfl))
          refine take_v (v := ?_) 10 ⟨some 53, Op.fieldAddr 52 (Operand.tmp 4) 0, _, _, _, some (2, true)⟩ rfl (fun _ _ _ h => h) ?_ hHeld ?_
          rotate_left
          · (intro W _; go_simp <;> (try with_reducible rfl))
          refine take_v (v := ?_) 11 ⟨some 54, Op.load 9 (Operand.tmp 53), _, _, _, some (2, true)⟩ rfl (fun _ _ _ h => h) ?_ hHeld ?_
          rotate_left
          · (intro W hSW; (have s0 := hSW.1.cell 0 rfl; have s1 := hSW.1.2; have s2 := hSW.2.1.cell 1 rfl; have s3 := hSW.2.1.2; have s4 := hSW.2.2); go_simp <;> (try with_reducible rfl))
          refine take_v (v := ?_) 12 ⟨some 55, Op.binOp BinOp.geq 9 (Operand.tmp 52) (Operand.tmp 54) 9, _, _, _, some (2, true)⟩ rfl (fun _ _ _ h => h) ?_ hHeld ?_
          rotate_left
          · (intro W _; go_simp <;> (try with_reducible rfl))
          refine take_v (v := ?_) 13 ⟨some 56, Op.pick (Operand.tmp 45) (Operand.tmp 55) (Operand.const (Value.bool false)), _, _, _, none⟩ rfl (fun _ _ _ h => h) ?_ hHeld ?_
          rotate_left
          · (intro W _; go_simp <;> (try with_reducible rfl))
          refine wpAnyH_done (by kernel_rfl) ?_ _
          refine NoPanic.normal ?_
          go_wp2
          go_ret
          exact ⟨ret_bool HN.out.symm, H2d.out.2.2.1⟩
        · have HY : Hid (recP S k) := HC.out.2 e3
          go_upto_region 8 with fail
          refine wp_region_noPanic ?_
          refine wp_region_held_drew (S := fun W => Bx W wr.heap.size [.string (S.R k).f0, .string (S.R k).f1, .int .i64 (S.R k).f2, .int .i64 (S.R k).f3, .bool (S.R k).f4, .int .i64 (S.R k).f5] ∧ Bx W w.heap.size [.int .i64 S.ep, .slice (some ⟨b, off, none⟩) S.rn rc, .slice ta S.tn tc, .slice oa S.on oc] ∧ W.cell? ⟨b, off + q * 6, none⟩ = some (.string (S.R q).f0)) (by kernel_rfl) ⟨H2d.out.1, H2d.out.2.1, HQ1.out⟩ (fun hHeld => ?_)
          refine take_v (v := ?_) 0 ⟨some 43, Op.move (Operand.tmp 3), _, _, _, none⟩ rfl (fun _ _ _ h => h) ?_ hHeld ?_
          rotate_left
          · (intro W _; go_simp <;> (try with_reducible rfl))
          refine take_v (v := ?_) 1 ⟨some 44, Op.binOp BinOp.gtr 3 (Operand.tmp 43) (Operand.const (Value.int IntKind.i64 0)) 3, _, _, _, none⟩ rfl (fun _ _ _ h => h) ?_ hHeld ?_
          rotate_left
          · (intro W _; go_simp <;> (try with_reducible rfl))
          refine take_v (v := ?_) 2 ⟨some 45, Op.move (Operand.tmp 44), _, _, _, none⟩ rfl (fun _ _ _ h => h) ?_ hHeld ?_
          rotate_left
          · (intro W _; go_simp <;> (try with_reducible rfl))
          refine take_v (v := ?_) 3 ⟨some 46, Op.fieldAddr 34 (Operand.tmp 1) 1, _, _, _, some (2, true)⟩ rfl (fun _ _ _ h => h) ?_ hHeld ?_
          rotate_left
          · (intro W _; go_simp <;> (try with_reducible rfl))
          refine take_v (v := ?_) 4 ⟨some 47, Op.load 31 (Operand.tmp 46), _, _, _, some (2, true)⟩ rfl (fun _ _ _ h => h) ?_ hHeld ?_
          rotate_left
          · (intro W hSW; (have s0 := hSW.1.cell 0 rfl; have s1 := hSW.1.2; have s2 := hSW.2.1.cell 1 rfl; have s3 := hSW.2.1.2; have s4 := hSW.2.2); go_simp <;> (try with_reducible rfl))
          refine take_v (v := ?_) 5 ⟨some 48, Op.move (Operand.tmp 3), _, _, _, some (2, true)⟩ rfl (fun _ _ _ h => h) ?_ hHeld ?_
          rotate_left
          · (intro W _; go_simp <;> (try with_reducible rfl))
          refine take_v (v := ?_) 6 ⟨some 49, Op.binOp BinOp.sub 3 (Operand.tmp 48) (Operand.const (Value.int IntKind.i64 1)) 3, _, _, _, some (2, true)⟩ rfl (fun _ _ _ h => h) ?_ hHeld ?_
          rotate_left
          · (intro W _; go_simp <;> (try with_reducible rfl))
          refine take_v (v := ?_) 7 ⟨some 50, Op.indexAddr 31 (Operand.tmp 47) (Operand.tmp 49), _, _, _, some (2, true)⟩ rfl (fun _ _ _ h => h) ?_ hHeld ?_
          rotate_left
          · (intro W _; go_simp <;> (try with_reducible rfl))
          refine take_v (v := ?_) 8 ⟨some 51, Op.fieldAddr 52 (Operand.tmp 50) 0, _, _, _, some (2, true)⟩ rfl (fun _ _ _ h => h) ?_ hHeld ?_
          rotate_left
          · (intro W _; go_simp <;> (try with_reducible rfl))
          refine take_v (v := ?_) 9 ⟨some 52, Op.load 9 (Operand.tmp 51), _, _, _, some (2, true)⟩ rfl (fun _ _ _ h => h) ?_ hHeld ?_
          rotate_left
          · (intro W hSW; (have s0 := hSW.1.cell 0 rfl; have s1 := hSW.1.2; have s2 := hSW.2.1.cell 1 rfl; have s3 := hSW.2.1.2; have s4 := hSW.2.2); go_simp <;> (try with_reducible rfl))
          refine take_v (v := ?_) 10 ⟨some 53, Op.fieldAddr 52 (Operand.tmp 4) 0, _, _, _, some (2, true)⟩ rfl (fun _ _ _ h => h) ?_ hHeld ?_
          rotate_left
          · (intro W _; go_simp <;> (try with_reducible rfl))
          refine take_v (v := ?_) 11 ⟨some 54, Op.load 9 (Operand.tmp 53), _, _, _, some (2, true)⟩ rfl (fun _ _ _ h => h) ?_ hHeld ?_
          rotate_left
          · (intro W hSW; (have s0 := hSW.1.cell 0 rfl; have s1 := hSW.1.2; have s2 := hSW.2.1.cell 1 rfl; have s3 := hSW.2.1.2; have s4 := hSW.2.2); go_simp <;> (try with_reducible rfl))
          refine take_v (v := ?_) 12 ⟨some 55, Op.binOp BinOp.geq 9 (Operand.tmp 52) (Operand.tmp 54) 9, _, _, _, some (2, true)⟩ rfl (fun _ _ _ h => h) ?_ hHeld ?_
          rotate_left
          · (intro W _; go_simp <;> (try with_reducible rfl))
          refine take_v (v := ?_) 13 ⟨some 56, Op.pick (Operand.tmp 45) (Operand.tmp 55) (Operand.const (Value.bool false)), _, _, _, none⟩ rfl (fun _ _ _ h => h) ?_ hHeld ?_
          rotate_left
          · (intro W _; go_simp <;> (try with_reducible rfl))
          refine wpAnyH_done (by kernel_rfl) ?_ _
          refine NoPanic.normal ?_
          go_wp2
          go_roundw
          case rel => exact ⟨k + 1, by omega, by go_num, upto_succ H2d.out.2.2.2 HY.out, H2d.out.2.1, H2d.out.2.2.1⟩
          case measure => simp [intOf]; omega
    · have hkn : k = S.rn := by omega
      have hlt' : ¬ (k : Int) < (S.rn : Int) := by omega
      have HR : Hid (∀ i, i < S.rn → recP S i) := by rw [hkn] at hall; exact hall
      have HX : Hid (Bx wr w.heap.size [.int .i64 S.ep, .slice ra S.rn rc, .slice ta S.tn tc, .slice oa S.on oc] ∧ Below w.heap.size w wr) := ⟨hx, hBr⟩
      have g2 := hx.cell 2 rfl
      have gz := hx.2
      obtain ⟨wo, hwo⟩ : ∃ x, x = wr := ⟨wr, rfl⟩
      subst hwo
      clear hall hx hBr hkn
      go_wp2
      clear g2 gz
      go_loopw [61] (fun i wr => ∃ k : Nat, k ≤ S.tn ∧ i = .int .i64 k ∧ (∀ i, i < k → txnP S i) ∧ Bx wr w.heap.size [.int .i64 S.ep, .slice ra S.rn rc, .slice ta S.tn tc, .slice oa S.on oc] ∧ Below w.heap.size w wr) (fun i _ => S.tn - (intOf i).toNat)
      case atStart => exact ⟨0, Nat.zero_le _, rfl, fun i hi => absurd hi (by omega), HX.out.1, HX.out.2⟩
      case round =>
        obtain ⟨k, hk, rfl, hall, hx, hBr⟩ := hrel
        clear HX
        by_cases hlt : k < S.tn
        · have hst := HS.out.1.next hBr
          have hsl : Sl wr ta S.tn 7 (ruF S.T U) := hst.2.1.1
          rcases hsl with h | ⟨b, off, rfl, hbs, hE⟩
          · omega
          have hlt' : (k : Int) < (S.tn : Int) := by omega
          obtain ⟨c0, c1, c2, c3, c4, c5, c6⟩ := ru_cells hE hlt
          have hd : Below wr.heap.size wr (wr.alloc (.cells #[.int .i64 (S.T k).id, .int .i64 (S.T k).st, .slice (U k).la (S.T k).ln (U k).lc, .slice (U k).ca (S.T k).cn (U k).cc, .int .i64 (S.T k).e, .int .i64 (S.T k).s, .bool (S.T k).b] 71)) := Go.Joins.below_alloc1 _ _
          have H0 : Hid (Bx (wr.alloc (.cells #[.int .i64 (S.T k).id, .int .i64 (S.T k).st, .slice (U k).la (S.T k).ln (U k).lc, .slice (U k).ca (S.T k).cn (U k).cc, .int .i64 (S.T k).e, .int .i64 (S.T k).s, .bool (S.T k).b] 71)) wr.heap.size [.int .i64 (S.T k).id, .int .i64 (S.T k).st, .slice (U k).la (S.T k).ln (U k).lc, .slice (U k).ca (S.T k).cn (U k).cc, .int .i64 (S.T k).e, .int .i64 (S.T k).s, .bool (S.T k).b] ∧ Bx (wr.alloc (.cells #[.int .i64 (S.T k).id, .int .i64 (S.T k).st, .slice (U k).la (S.T k).ln (U k).lc, .slice (U k).ca (S.T k).cn (U k).cc, .int .i64 (S.T k).e, .int .i64 (S.T k).s, .bool (S.T k).b] 71)) w.heap.size [.int .i64 S.ep, .slice ra S.rn rc, .slice (some ⟨b, off, none⟩) S.tn tc, .slice oa S.on oc] ∧ Below w.heap.size w (wr.alloc (.cells #[.int .i64 (S.T k).id, .int .i64 (S.T k).st, .slice (U k).la (S.T k).ln (U k).lc, .slice (U k).ca (S.T k).cn (U k).cc, .int .i64 (S.T k).e, .int .i64 (S.T k).s, .bool (S.T k).b] 71)) ∧ (∀ i, i < k → txnP S i)) := ⟨Bx.new wr [.int .i64 (S.T k).id, .int .i64 (S.T k).st, .slice (U k).la (S.T k).ln (U k).lc, .slice (U k).ca (S.T k).cn (U k).cc, .int .i64 (S.T k).e, .int .i64 (S.T k).s, .bool (S.T k).b] _, hx.next hd, below_next' hBr hd, hall⟩
          clear hall hBr hE hx hd hbs hst
          cases e2 : ((S.T k).id != (k : Int) + 1)
          case true =>
            have HN : Hid (goodB S = false) := no_txn hlt fun g => by rw [g.1] at e2; simp at e2
            go_wp2
            go_ret
            exact ⟨ret_bool HN.out.symm, H0.out.2.2.1⟩
          have hid : (S.T k).id = (k : Int) + 1 := by simpa using e2
          have HID : Hid ((S.T k).id = (k : Int) + 1) := hid
          clear hid
          go_wp2_with fail
          refine (isRunning_any (S.T k) (U k) _ (HS.out.2.1.2.2.2.2 k hlt) (HS.out.2.2.2.1.2 k hlt) ((HS.out.1.next H0.out.2.2.1).2.1.2 k hlt)).mono ?_
          rintro r w1 ⟨rfl, hb⟩
          have H1 : Hid (Bx w1 wr.heap.size [.int .i64 (S.T k).id, .int .i64 (S.T k).st, .slice (U k).la (S.T k).ln (U k).lc, .slice (U k).ca (S.T k).cn (U k).cc, .int .i64 (S.T k).e, .int .i64 (S.T k).s, .bool (S.T k).b] ∧ Bx w1 w.heap.size [.int .i64 S.ep, .slice ra S.rn rc, .slice (some ⟨b, off, none⟩) S.tn tc, .slice oa S.on oc] ∧ Below w.heap.size w w1 ∧ (∀ i, i < k → txnP S i)) := ⟨H0.out.1.next hb, H0.out.2.1.next hb, below_next' H0.out.2.2.1 hb, H0.out.2.2.2⟩
          clear hb H0 c0 c1 c2 c3 c4 c5 c6
          have d0 := H1.out.1.cell 0 rfl
          have d1 := H1.out.1.cell 1 rfl
          have d2 := H1.out.1.cell 2 rfl
          have d3 := H1.out.1.cell 3 rfl
          have d4 := H1.out.1.cell 4 rfl
          have d5 := H1.out.1.cell 5 rfl
          have d6 := H1.out.1.cell 6 rfl
          have dz := H1.out.1.2
          have g1 := H1.out.2.1.cell 1 rfl
          have gz := H1.out.2.1.2
          cases e3 : clB (runP (S.T k))
          · have HN : Hid (goodB S = false) := no_txn hlt fun g => clB_not e3 g.2.1
            go_wp2
            go_ret
            exact ⟨ret_bool HN.out.symm, H1.out.2.2.1⟩
          have HR1 : Hid (runP (S.T k)) := clB_iff.1 e3
          cases e4 : mayB (S.T k).st
          · have HY : Hid (txnP S k) := ⟨HID.out, HR1.out, fun h => by rw [e4] at h; cases h⟩
            go_wp2_with (go_at_call 62; refine (mayOwn_any _ _).mono ?_; rintro e w' ⟨rfl, rfl⟩)
            go_roundw
            case rel => exact ⟨k + 1, by omega, by go_num, upto_succ H1.out.2.2.2 HY.out, H1.out.2.1, H1.out.2.2.1⟩
            case measure => simp [intOf]; omega
          go_wp2_with (go_at_call 62; refine (mayOwn_any _ _).mono ?_; rintro e w' ⟨rfl, rfl⟩)
          refine (ownsWrites_any S (S.T k) (U k) _ _ _ hrn (HS.out.2.2.2.1.2 k hlt).2 (by have := HID.out; omega) (recs_rise HR.out) (HS.out.1.next H1.out.2.2.1).1 ((HS.out.1.next H1.out.2.2.1).2.1.2 k hlt).2.1).mono ?_
          rintro r w2 ⟨rfl, hb⟩
          have H2 : Hid (Bx w2 w.heap.size [.int .i64 S.ep, .slice ra S.rn rc, .slice (some ⟨b, off, none⟩) S.tn tc, .slice oa S.on oc] ∧ Below w.heap.size w w2 ∧ (∀ i, i < k → txnP S i)) := ⟨H1.out.2.1.next hb, below_next' H1.out.2.2.1 hb, H1.out.2.2.2⟩
          clear hb H1 d0 d1 d2 d3 d4 d5 d6 dz g1 gz
          cases e5 : clB (ownsP S (S.T k))
          · have HN : Hid (goodB S = false) := no_txn hlt fun g => clB_not e5 (g.2.2 e4)
            go_wp2
            go_ret
            exact ⟨ret_bool HN.out.symm, H2.out.2.1⟩
          · have HY : Hid (txnP S k) := ⟨HID.out, HR1.out, fun _ => clB_iff.1 e5⟩
            go_wp2
            go_roundw
            case rel => exact ⟨k + 1, by omega, by go_num, upto_succ H2.out.2.2 HY.out, H2.out.1, H2.out.2.1⟩
            case measure => simp [intOf]; omega
        · have hkn : k = S.tn := by omega
          have hlt' : ¬ (k : Int) < (S.tn : Int) := by omega
          have HT : Hid (∀ i, i < S.tn → txnP S i) := by rw [hkn] at hall; exact hall
          have hdr : Below wr.heap.size wr wr.drew := (Below.refl _ _).drew
          have HX : Hid (Bx wr.drew w.heap.size [.int .i64 S.ep, .slice ra S.rn rc, .slice ta S.tn tc, .slice oa S.on oc] ∧ Below w.heap.size w wr.drew) := ⟨hx.next hdr, below_next' hBr hdr⟩
          have HG : Hid (goodB S = eachB S.O S.on (idsL S.T S.tn)) := by show _ = _; rw [good_is HH.out HR.out HT.out]; exact ord_is (fun i hi => (HT.out i hi).1)
          clear hall hx hBr hkn hdr
          go_upto_region 17 with fail
          refine wp_region_noPanic ?_
          refine wp_region_held_drew (S := fun W => Bx W w.heap.size [.int .i64 S.ep, .slice ra S.rn rc, .slice ta S.tn tc, .slice oa S.on oc]) (by kernel_rfl) HX.out.1 (fun hHeld => ?_)
          refine take_v (v := ?_) 0 ⟨some 89, Op.fieldAddr 34 (Operand.tmp 1) 3, _, _, _, none⟩ rfl (fun _ _ _ h => h) ?_ hHeld ?_
          rotate_left
          · (intro W _; go_simp <;> (try with_reducible rfl))
          refine take_v (v := ?_) 1 ⟨some 90, Op.load 24 (Operand.tmp 89), _, _, _, none⟩ rfl (fun _ _ _ h => h) ?_ hHeld ?_
          rotate_left
          · (intro W hSW; (have s0 := hSW.cell 2 rfl; have s1 := hSW.cell 3 rfl; have s2 := hSW.2); go_simp <;> (try with_reducible rfl))
          refine take_v (v := ?_) 2 ⟨some 91, Op.fieldAddr 34 (Operand.tmp 1) 2, _, _, _, none⟩ rfl (fun _ _ _ h => h) ?_ hHeld ?_
          rotate_left
          · (intro W _; go_simp <;> (try with_reducible rfl))
          refine take_v (v := ?_) 3 ⟨some 92, Op.load 32 (Operand.tmp 91), _, _, _, none⟩ rfl (fun _ _ _ h => h) ?_ hHeld ?_
          rotate_left
          · (intro W hSW; (have s0 := hSW.cell 2 rfl; have s1 := hSW.cell 3 rfl; have s2 := hSW.2); go_simp <;> (try with_reducible rfl))
          refine ready_call 4 ⟨some 93, Op.call { callee := Callee.value (Operand.func 65), args := #[Operand.tmp 92], argTypes := #[32] }, _, _, _, none⟩ (by kernel_rfl) rfl (by kernel_rfl) (fun KC hK => ?_)
          go_wp2_with fail
          refine (idsWithTid_any _ _ _ S.T U _ htn (HS.out.1.next HX.out.2).2.1).mono ?_
          rintro r w1 ⟨v, rfl, hown, hb⟩
          obtain ⟨a5, c5, rfl, hsl⟩ := ids_sl hown
          have H1 : Hid (Bx w1 w.heap.size [.int .i64 S.ep, .slice ra S.rn rc, .slice ta S.tn tc, .slice oa S.on oc] ∧ Below w.heap.size w w1 ∧ Sl w1 a5 (idsL S.T S.tn).length 1 (intF fun i => (idsL S.T S.tn).getD i 0)) := ⟨HX.out.1.next hb, below_next' HX.out.2 hb, hsl⟩
          clear hb hown hsl
          refine hK.out _ _ H1.out.1 (fun hHeld => ?_)
          clear hK KC
          refine ready_call 5 ⟨some 94, Op.call { callee := Callee.value (Operand.func 64), args := #[Operand.tmp 90, Operand.tmp 93], argTypes := #[24, 24] }, _, _, _, none⟩ (by kernel_rfl) rfl (by kernel_rfl) (fun KC hK => ?_)
          go_wp2_with fail
          refine (hasEachOnce_any _ _ _ S.O _ _ _ (fun i => (idsL S.T S.tn).getD i 0) _ HS.out.2.2.2.2 (by have := idsL_len S.T S.tn; omega) (HS.out.1.next H1.out.2.1).2.2.1 H1.out.2.2).mono ?_
          rintro r w2 ⟨rfl, hb⟩
          rw [lstN_getD']
          have H2 : Hid (Bx w2 w.heap.size [.int .i64 S.ep, .slice ra S.rn rc, .slice ta S.tn tc, .slice oa S.on oc] ∧ Below w.heap.size w w2) := ⟨H1.out.1.next hb, below_next' H1.out.2.1 hb⟩
          clear hb
          refine hK.out _ _ H2.out.1 (fun hHeld => ?_)
          clear hK KC
          refine take_v (v := ?_) 6 ⟨some 2, Op.assign (Operand.tmp 94), _, _, _, none⟩ rfl (fun _ _ _ h => h) ?_ hHeld ?_
          rotate_left
          · (intro W _; go_simp <;> (try with_reducible rfl))
          refine wpAnyH_done (by kernel_rfl) ?_ _
          refine NoPanic.normal ?_
          go_wp2
          go_ret
          exact ⟨ret_bool HG.out.symm, H2.out.2⟩
theorem goodStore_any (A : StA) (S : StV) (w : World) (hl : StLen S) (hok : StOk S) (hs : StAt w A S) :
    Calls Tryz.prog 28 #[.agg #[.int .i64 S.ep, .slice A.ra S.rn A.rc, .slice A.ta S.tn A.tc, .slice A.oa S.on A.oc]] w fun r w' => r = .returned (.bool (goodB S)) ∧ Below w.heap.size w w' :=
  goodStore_at A.ra A.rc A.ta A.tc A.oa A.oc A.U S w hl hok hs
end Go.Proofs.YtenfaofhoheleaaGreat
