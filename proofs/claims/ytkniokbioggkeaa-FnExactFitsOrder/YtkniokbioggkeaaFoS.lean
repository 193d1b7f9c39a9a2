/- The contract of the specification's FitsOrder. -/
import Derived.Test.YtkniokbioggkeaaFoG
import Derived.Test.YtkniokbioggkeaaOnV
import Derived.Test.YtkniokbioggkeaaL3C
import Derived.Test.YtkniokbioggkeaaCaS
import Derived.Deep.QuietTactic
import Derived.BigQuiet
namespace Go.Proofs.Ytkniokbioggkeaa
open Go.RowKit
set_option linter.unusedVariables false

set_option maxRecDepth 100000 in
set_option maxHeartbeats 8000000 in
theorem specFitsOrder_any (a : Option Addr) (n cap : Nat) (V : Nat → CallV) (a' : Option Addr) (m cap' : Nat) (O : Nat → Int) (w : World) (hn : n ≤ 1048576) (hcap : n ≤ cap) (hm : m ≤ 1048576) (hcap' : m ≤ cap') (hz : ∀ i, i < n → (V i).f2.size ≤ maxLen ∧ (V i).f3.size ≤ maxLen) (hs : Sl w a n 6 (callF V)) (hs' : Sl w a' m 1 (intF O)) :
    Calls Try.prog 21 #[.slice a n cap, .slice a' m cap'] w fun r w' => FoPost V n O m w r w' := by
  have HS : Hid (Sl w a n 6 (callF V) ∧ Sl w a' m 1 (intF O) ∧ (∀ i, i < n → (V i).f2.size ≤ maxLen ∧ (V i).f3.size ≤ maxLen)) := ⟨hs, hs', hz⟩
  clear hs hs' hz
  go_enter Try.func21, Try.ntmps21
  go_wp2_with fail
  refine (specGoodCalls_any _ _ _ V _ hn hcap HS.out.2.2 HS.out.1).mono ?_
  rintro r w1 ⟨rfl, hb⟩
  have H1 : Hid (Below w.heap.size w w1) := hb
  clear hb
  cases e1 : calsB V n
  · have HN : Hid (FoPost V n O m w (.returned (.tuple #[.bool false, .bool false])) w1) := fo_post (fo_no1 e1) H1.out
    go_wp2
    exact bodyPost_ret (v := .tuple #[.bool false, .bool false]) (by simp [results, Try.results21, go_sem]) rfl HN.out
  have h7 : n ≤ 7 := (calsB_iff.1 e1).1
  by_cases hmn : m = n
  case neg =>
    have HN : Hid (FoPost V n O m w (.returned (.tuple #[.bool false, .bool false])) w1) := fo_post (fo_no2 (Bool.eq_false_iff.2 fun h => hmn (ordB_iff.1 h).1)) H1.out
    have hmn' : ¬ (m : Int) = (n : Int) := by omega
    go_wp2
    exact bodyPost_ret (v := .tuple #[.bool false, .bool false]) (by simp [results, Try.results21, go_sem]) rfl HN.out
  subst hmn
  have HF : Hid (calsB V m = true) := e1
  clear e1
  go_wp2
  go_loopw [24] (fun z wr => ∃ k : Nat, k ≤ m ∧ z = .int .i64 k ∧ (∀ i, i < k → inR (O i) 0 ((m : Int) - 1) = true ∧ hasN O (O i) i = false) ∧ wr = w1) (fun z _ => m - (intOf z).toNat)
  case atStart => exact ⟨0, Nat.zero_le _, rfl, fun j hj => absurd hj (by omega), rfl⟩
  case round =>
    obtain ⟨k, hk, rfl, hall, rfl⟩ := hrel
    have HA : Hid (∀ i, i < k → inR (O i) 0 ((m : Int) - 1) = true ∧ hasN O (O i) i = false) := hall
    clear hall
    by_cases hlt : k < m
    · have hlt' : (k : Int) < (m : Int) := by omega
      have hkc : (k : Int) ≤ (cap' : Int) := by omega
      have hsub : IntKind.i64.wrap ((m : Int) - 1) = (m : Int) - 1 := by rw [IntKind.wrap_i64]; omega
      have HSl : Hid (Sl wr a' k 1 (intF O)) := by
        rcases HS.out.2.1.below H1.out (Nat.le_refl _) with h | ⟨b, off, e, hbs, hE⟩
        · omega
        · exact Or.inr ⟨b, off, e, hbs, fun i hi j hj => hE i (by omega) j hj⟩
      rcases HS.out.2.1.below H1.out (Nat.le_refl _) with h | ⟨b, off, rfl, hbs, hE⟩
      · omega
      have d0 := int_cell hE hlt
      clear hE
      cases e1 : inR (O k) 0 ((m : Int) - 1)
      · have HN : Hid (FoPost V m O m w (.returned (.tuple #[.bool false, .bool false])) wr) := fo_post (fo_no2 (Bool.eq_false_iff.2 fun h => by have := ((ordB_iff.1 h).2 k hlt).1; rw [e1] at this; cases this)) H1.out
        go_wp2_with (go_at_call 47; refine (l1In_any _ _ _ _).mono ?_; rintro e w' ⟨rfl, rfl⟩)
        exact bodyPost_ret (v := .tuple #[.bool false, .bool false]) (by simp [results, Try.results21, go_sem]) rfl HN.out
      cases e2 : hasN O (O k) k
      · go_wp2_with (first
          | (go_at_call 47; refine (l1In_any _ _ _ _).mono ?_; rintro e w' ⟨rfl, rfl⟩)
          | (go_at_call 48; refine (l1Has_any _ _ _ O _ _ (by omega) HSl.out).mono ?_; rintro e w' ⟨rfl, rfl⟩))
        go_roundw
        case rel => exact ⟨k + 1, by omega, by go_num, upto_succ HA.out ⟨e1, e2⟩, trivial⟩
        case measure => simp [intOf]; omega
      · have HN : Hid (FoPost V m O m w (.returned (.tuple #[.bool false, .bool false])) wr) := fo_post (fo_no2 (Bool.eq_false_iff.2 fun h => by have := ((ordB_iff.1 h).2 k hlt).2; rw [e2] at this; cases this)) H1.out
        go_wp2_with (first
          | (go_at_call 47; refine (l1In_any _ _ _ _).mono ?_; rintro e w' ⟨rfl, rfl⟩)
          | (go_at_call 48; refine (l1Has_any _ _ _ O _ _ (by omega) HSl.out).mono ?_; rintro e w' ⟨rfl, rfl⟩))
        exact bodyPost_ret (v := .tuple #[.bool false, .bool false]) (by simp [results, Try.results21, go_sem]) rfl HN.out
    · have hkm : k = m := by omega
      subst hkm
      have HO : Hid (ordB O k k = true) := ordB_iff.2 ⟨rfl, HA.out⟩
      obtain ⟨wb, hwb⟩ : ∃ y, y = wr := ⟨wr, rfl⟩
      subst hwb
      go_wp2
      go_loopw [45, 8] (fun z v wr => ∃ (q : Nat) (L : List CellV), q ≤ k ∧ z = .int .i64 q ∧ fitP V O q ∧ Sees V k (ordN O q) L ∧ wr.ownsRow wb.heap.size 71 2 v L.length (cellsC L) ∧ Below wb.heap.size wb wr) (fun z _ _ => k - (intOf z).toNat)
      case atStart => exact ⟨0, [], Nat.zero_le _, rfl, fun j hj => absurd hj (by omega), Sees.nil V k, World.ownsRow_nil _ _ _ _, Below.refl _ _⟩
      case round =>
        obtain ⟨q, L, hq, rfl, hfit, hsees, hown, hBr⟩ := hrel
        have hLl := hsees.len
        have HQ : Hid (fitP V O q ∧ Sees V k (ordN O q) L ∧ wr.ownsRow wb.heap.size 71 2 u8 L.length (cellsC L) ∧ Below wb.heap.size wb wr) := ⟨hfit, hsees, hown, hBr⟩
        have HBw : Hid (Below w.heap.size w wr) := H1.out.trans (hBr.mono H1.out.size)
        clear hfit hsees hown hBr
        by_cases hql : q < k
        · have hql' : (q : Int) < (k : Int) := by omega
          obtain ⟨i, hi⟩ : ∃ i : Nat, i = (O q).toNat := ⟨_, rfl⟩
          have hin : O q = (i : Int) ∧ i < k := by
            have := inR_iff.1 (HA.out q hql).1
            omega
          rcases HS.out.2.1.below HBw.out (Nat.le_refl _) with h | ⟨b, off, rfl, hbs, hE⟩
          · omega
          rcases HS.out.1.below HBw.out (Nat.le_refl _) with h | ⟨b1, off1, rfl, hbs1, hE1⟩
          · omega
          have d0 := int_cell hE hql
          rw [hin.1] at d0
          have HI : Hid (i = (O q).toNat ∧ ordN O (q + 1) = ordN O q ++ [i]) := ⟨hi, by rw [ordN_succ, hi]⟩
          have hil := hin.2
          have hil' : (i : Int) < (k : Int) := by omega
          obtain ⟨c0, c1, c2, c3, c4, c5⟩ := call_cells hE1 hil
          have hd : Below wr.heap.size wr (wr.alloc (.cells #[.int .i64 (V i).f0, .bool (V i).f1, .string (V i).f2, .string (V i).f3, .int .i64 (V i).f4, .int .i64 (V i).f5] 28)) := Go.Joins.below_alloc1 _ _
          have HX : Hid (Bx (wr.alloc (.cells #[.int .i64 (V i).f0, .bool (V i).f1, .string (V i).f2, .string (V i).f3, .int .i64 (V i).f4, .int .i64 (V i).f5] 28)) wr.heap.size [.int .i64 (V i).f0, .bool (V i).f1, .string (V i).f2, .string (V i).f3, .int .i64 (V i).f4, .int .i64 (V i).f5] ∧ (wr.alloc (.cells #[.int .i64 (V i).f0, .bool (V i).f1, .string (V i).f2, .string (V i).f3, .int .i64 (V i).f4, .int .i64 (V i).f5] 28)).ownsRow wb.heap.size 71 2 u8 L.length (cellsC L) ∧ Below wb.heap.size wb (wr.alloc (.cells #[.int .i64 (V i).f0, .bool (V i).f1, .string (V i).f2, .string (V i).f3, .int .i64 (V i).f4, .int .i64 (V i).f5] 28)) ∧ Below w.heap.size w (wr.alloc (.cells #[.int .i64 (V i).f0, .bool (V i).f1, .string (V i).f2, .string (V i).f3, .int .i64 (V i).f4, .int .i64 (V i).f5] 28))) := ⟨Bx.new wr [.int .i64 (V i).f0, .bool (V i).f1, .string (V i).f2, .string (V i).f3, .int .i64 (V i).f4, .int .i64 (V i).f5] _, own_keep HQ.out.2.2.1 hd, below_nx HQ.out.2.2.2 hd, below_nx HBw.out hd⟩
          clear hi hin hE hE1 hd
          cases hw : (V i).f1
          · rw [hw] at c1 HX
            have HV : Hid (fitB V (ordN O q) i = ((valL L (V i).f2.toList).toList == (V i).f3.toList)) := by show _ = _; rw [HQ.out.2.1.2.1]; exact fit_read hw
            go_upto_region 16 with fail
            clear d0 c0 c1 c2 c3 c4 c5
            obtain ⟨la, lc, rfl, _, hrow⟩ := SRow.of (F := cellF (cV L)) (c := 2) HX.out.2.1
            have HX := (show Hid (_ ∧ _ ∧ _ ∧ _ ∧ _) from ⟨HX.out.1.next (Below.refl _ _).drew, hrow.sl.below (Below.refl _ _).drew (Nat.le_refl _), own_keep HX.out.2.1 (Below.refl _ _).drew, HX.out.2.2.1.drew, HX.out.2.2.2.drew⟩)
            clear hrow
            refine wp_region_noPanic ?_
            refine wp_region_held_drew (S := fun W => Bx W wr.heap.size [.int .i64 (V i).f0, .bool false, .string (V i).f2, .string (V i).f3, .int .i64 (V i).f4, .int .i64 (V i).f5]) (by kernel_rfl) HX.out.1 (fun hHeld => ?_)
            refine take_v (v := ?_) 0 ⟨some 62, Op.move (Operand.tmp 8), _, _, _, none⟩ rfl (fun _ _ _ h => h) ?_ hHeld ?_
            rotate_left
            · (intro W _; go_simp <;> (try with_reducible rfl))
            refine take_v (v := ?_) 1 ⟨some 63, Op.fieldAddr 28 (Operand.tmp 11) 2, _, _, _, none⟩ rfl (fun _ _ _ h => h) ?_ hHeld ?_
            rotate_left
            · (intro W _; go_simp <;> (try with_reducible rfl))
            refine take_v (v := ?_) 2 ⟨some 64, Op.load 9 (Operand.tmp 63), _, _, _, none⟩ rfl (fun _ _ _ h => h) ?_ hHeld ?_
            rotate_left
            · (intro W hSW; (have s1 := hSW.cell 2 rfl; have s2 := hSW.cell 3 rfl; have sz := hSW.2); go_simp <;> (try with_reducible rfl))
            refine take_v (v := ?_) 4 ⟨some 66, Op.fieldAddr 28 (Operand.tmp 11) 3, _, _, _, none⟩ rfl (fun _ _ _ h => h) ?_ hHeld ?_
            rotate_left
            · (intro W _; go_simp <;> (try with_reducible rfl))
            refine take_v (v := ?_) 5 ⟨some 67, Op.load 9 (Operand.tmp 66), _, _, _, none⟩ rfl (fun _ _ _ h => h) ?_ hHeld ?_
            rotate_left
            · (intro W hSW; (have s1 := hSW.cell 2 rfl; have s2 := hSW.cell 3 rfl; have sz := hSW.2); go_simp <;> (try with_reducible rfl))
            refine ready_call 3 ⟨some 65, Op.call { callee := Callee.value (Operand.func 50), args := #[Operand.tmp 62, Operand.tmp 64], argTypes := #[56, 9] }, _, _, _, none⟩ (by kernel_rfl) rfl (by kernel_rfl) (fun KC hK => ?_)
            go_wp2_with fail
            refine (l3Value_any _ _ L (V i).f2 _ (by omega) HX.out.2.1).mono ?_
            rintro r w4 ⟨rfl, hb⟩
            have H4 : Hid (Bx w4 wr.heap.size [.int .i64 (V i).f0, .bool false, .string (V i).f2, .string (V i).f3, .int .i64 (V i).f4, .int .i64 (V i).f5] ∧ w4.ownsRow wb.heap.size 71 2 (.slice la L.length lc) L.length (cellsC L) ∧ Below wb.heap.size wb w4 ∧ Below w.heap.size w w4) := ⟨HX.out.1.next hb, own_keep HX.out.2.2.1 hb, below_nx HX.out.2.2.2.1 hb, below_nx HX.out.2.2.2.2 hb⟩
            clear hb
            refine hK.out _ _ H4.out.1 (fun hHeld => ?_)
            clear hK KC
            refine take_v (v := ?_) 6 ⟨some 68, Op.binOp BinOp.neq 9 (Operand.tmp 65) (Operand.tmp 67) 9, _, _, _, none⟩ rfl (fun _ _ _ h => h) ?_ hHeld ?_
            rotate_left
            · (intro W _; go_simp <;> (try with_reducible rfl))
            refine wpAnyH_done (by kernel_rfl) ?_ _
            refine NoPanic.normal ?_
            clear hHeld HX
            cases ef : ((valL L (V i).f2.toList).toList == (V i).f3.toList)
            · have HN : Hid (FoPost V k O k w (.returned (.tuple #[.bool false, .bool true])) w4) := fo_post (fo_un HF.out HO.out hql (by rw [← HI.out.1, HV.out]; exact ef)) H4.out.2.2.2
              have ef' : ((valL L (V i).f2.toList).toList != (V i).f3.toList) = true := by rw [bne, ef]; rfl
              go_wp2
              exact bodyPost_ret (v := .tuple #[.bool false, .bool true]) (by simp [results, Try.results21, go_sem]) rfl HN.out
            · have HFk : Hid (fitP V O (q + 1)) := fitP_up HQ.out.1 (by rw [← HI.out.1, HV.out]; exact ef)
              have HSe : Hid (Sees V k (ordN O (q + 1)) L) := by show Sees _ _ _ _; rw [HI.out.2]; exact HQ.out.2.1.read hw
              have ef' : ((valL L (V i).f2.toList).toList != (V i).f3.toList) = false := by rw [bne, ef]; rfl
              go_wp2
              go_roundw
              case rel => exact ⟨q + 1, L, by omega, by go_num, HFk.out, HSe.out, H4.out.2.1, H4.out.2.2.1⟩
              case measure => simp [intOf]; omega
          · rw [hw] at c1 HX
            have HFk : Hid (fitP V O (q + 1)) := fitP_up HQ.out.1 (by rw [← HI.out.1]; exact fit_write hw)
            have HSe : Hid (Sees V k (ordN O (q + 1)) (putL L ⟨(V i).f2, (V i).f3⟩)) := by show Sees _ _ _ _; rw [HI.out.2]; exact HQ.out.2.1.write hil hw
            go_wp2_with fail
            refine (l3Cells_any wb.heap.size _ L ⟨(V i).f2, (V i).f3⟩ _ (by omega) HX.out.2.2.1.size HX.out.2.1).mono ?_
            rintro r w4 ⟨v4, rfl, ho4, hb4⟩
            have H4 : Hid (w4.ownsRow wb.heap.size 71 2 v4 (putL L ⟨(V i).f2, (V i).f3⟩).length (cellsC (putL L ⟨(V i).f2, (V i).f3⟩)) ∧ Below wb.heap.size wb w4) := ⟨ho4, hb4 _ _ HX.out.2.2.1 (Nat.le_refl _) HX.out.2.2.1.size⟩
            clear ho4 hb4 HX d0 c0 c1 c2 c3 c4 c5
            go_wp2
            go_roundw
            case rel => exact ⟨q + 1, _, by omega, by go_num, HFk.out, HSe.out, H4.out.1, H4.out.2⟩
            case measure => simp [intOf]; omega
        · have hqk : q = k := by omega
          have hql' : ¬ (q : Int) < (k : Int) := by omega
          have HN : Hid (FoPost V k O k w (.returned (.tuple #[.bool true, .bool true])) wr) := fo_post (fo_yes HF.out HO.out (hqk ▸ HQ.out.1)) HBw.out
          clear HQ HBw hqk
          go_wp2
          exact bodyPost_ret (v := .tuple #[.bool true, .bool true]) (by simp [results, Try.results21, go_sem]) rfl HN.out
end Go.Proofs.Ytkniokbioggkeaa
