/- The contracts of GoodLog and of the specification's own. -/
import Derived.Test.YtiepfdkfadbllaaLgF
import Derived.Test.YtiepfdkfadbllaaRg2
namespace Go.Proofs.Ytiepfdkfadbllaa
open Go.RowKit
set_option linter.unusedVariables false

set_option maxRecDepth 100000 in
set_option maxHeartbeats 4000000 in
theorem goodLog_any (a : Option Addr) (n cap : Nat) (V : Nat → EntryV) (w : World) (hn : n ≤ 1048576) (hcap : n ≤ cap) (hz : ∀ i, i < n → (V i).f1.size ≤ maxLen ∧ (V i).f2.size ≤ maxLen) (hs : Sl w a n 6 (entryF V)) :
    Calls Try.prog 25 #[.slice a n cap] w fun r w' => r = .returned (.bool (logB V n)) ∧ Below w.heap.size w w' := by
  by_cases h80 : n ≤ 80
  case neg =>
    have h80' : (80 : Int) < (n : Int) := by omega
    have HN : Hid (logB V n = false) := logB_big h80
    clear hs h80 hz
    go_enter Try.func25, Try.ntmps25
    go_wp2
    go_ret
    exact ⟨ret_bool HN.out.symm, Below.refl _ _⟩
  have h80' : ¬ (80 : Int) < (n : Int) := by omega
  have HS : Hid (Sl w a n 6 (entryF V) ∧ (∀ i, i < n → (V i).f1.size ≤ maxLen ∧ (V i).f2.size ≤ maxLen) ∧ n ≤ 80 ∧ n ≤ cap) := ⟨hs, hz, h80, hcap⟩
  clear hs hz
  go_enter Try.func25, Try.ntmps25
  go_wp2
  go_loopw [12] (fun i wr => ∃ k : Nat, k ≤ n ∧ i = .int .i64 k ∧ logP V k ∧ Below w.heap.size w wr) (fun i _ => n - (intOf i).toNat)
  case atStart => exact ⟨0, Nat.zero_le _, rfl, fun i hi => absurd hi (by omega), Below.refl _ _⟩
  case round =>
    obtain ⟨k, hk, rfl, hall, hBr⟩ := hrel
    by_cases hlt : k < n
    · rcases HS.out.1.below hBr (Nat.le_refl _) with h | ⟨b, off, rfl, hbs, hE⟩
      · omega
      have hlt' : (k : Int) < (n : Int) := by omega
      have hkc : (k : Int) ≤ (cap : Int) := by omega
      obtain ⟨c0, c1, c2, c3, c4, c5⟩ := entry_cells hE hlt
      have H0 : Hid (logP V k ∧ Below w.heap.size w wr ∧ Bx (wr.alloc (.cells #[.int .i64 (V k).f0, .string (V k).f1, .string (V k).f2, .int .i64 (V k).f3, .int .i64 (V k).f4, .bool (V k).f5] 33)) wr.heap.size [.int .i64 (V k).f0, .string (V k).f1, .string (V k).f2, .int .i64 (V k).f3, .int .i64 (V k).f4, .bool (V k).f5]) := ⟨hall, hBr, Bx.new wr [.int .i64 (V k).f0, .string (V k).f1, .string (V k).f2, .int .i64 (V k).f3, .int .i64 (V k).f4, .bool (V k).f5] _⟩
      clear hall hBr hE
      go_wp2_with fail
      refine (isEntry_any (V k) _ (HS.out.2.1 k hlt).1 (HS.out.2.1 k hlt).2).mono ?_
      rintro r w1 ⟨rfl, hb⟩
      have H1 : Hid (Bx w1 wr.heap.size [.int .i64 (V k).f0, .string (V k).f1, .string (V k).f2, .int .i64 (V k).f3, .int .i64 (V k).f4, .bool (V k).f5] ∧ Below w.heap.size w w1) := ⟨H0.out.2.2.next hb, below_nx (below_nx H0.out.2.1 (Go.Joins.below_alloc1 _ _)) hb⟩
      have HP : Hid (logP V k) := H0.out.1
      clear hb H0 c0 c1 c2 c3 c4 c5
      cases ho : entOk (V k)
      · have HN : Hid (logB V n = false) := logB_bad hlt ho
        go_wp2
        go_ret
        exact ⟨ret_bool HN.out.symm, H1.out.2⟩
      have H1d : Hid (Bx w1.drew wr.heap.size [.int .i64 (V k).f0, .string (V k).f1, .string (V k).f2, .int .i64 (V k).f3, .int .i64 (V k).f4, .bool (V k).f5] ∧ Below w.heap.size w w1.drew) := ⟨H1.out.1.next (Below.refl _ _).drew, below_nx H1.out.2 (Below.refl _ _).drew⟩
      clear H1
      go_upto_region 8 with fail
      refine wp_region_noPanic ?_
      refine wp_region_held_drew (S := fun W => Bx W wr.heap.size [.int .i64 (V k).f0, .string (V k).f1, .string (V k).f2, .int .i64 (V k).f3, .int .i64 (V k).f4, .bool (V k).f5] ∧ Below w.heap.size w W) (by kernel_rfl) H1d.out (fun hHeld => ?_)
      refine take_v (v := ?_) 0 ⟨some 21, Op.move (Operand.tmp 0), _, _, _, none⟩ rfl (fun _ _ _ h => h) ?_ hHeld ?_
      rotate_left
      · (intro W _; go_simp <;> (try with_reducible rfl))
      refine take_v (v := ?_) 1 ⟨some 22, Op.move (Operand.tmp 3), _, _, _, none⟩ rfl (fun _ _ _ h => h) ?_ hHeld ?_
      rotate_left
      · (intro W _; go_simp <;> (try with_reducible rfl))
      refine take_v (v := ?_) 2 ⟨some 23, Op.slice 23 (Operand.tmp 21) none (some (Operand.tmp 22)) none, _, _, _, none⟩ rfl (fun _ _ _ h => h) ?_ hHeld ?_
      rotate_left
      · (intro W _; go_simp <;> (try with_reducible rfl))
      refine take_v (v := ?_) 3 ⟨some 24, Op.load 33 (Operand.tmp 4), _, _, _, none⟩ rfl (fun _ _ _ h => h) ?_ hHeld ?_
      rotate_left
      · (intro W hSW; (have s0 := hSW.1.cell 0 rfl; have s1 := hSW.1.cell 1 rfl; have s2 := hSW.1.cell 2 rfl; have s3 := hSW.1.cell 3 rfl; have s4 := hSW.1.cell 4 rfl; have s5 := hSW.1.cell 5 rfl; have s6 := hSW.1.2); go_simp <;> (try with_reducible rfl))
      refine ready_two 4 9 ⟨some 25, Op.call { callee := Callee.value (Operand.func 45), args := #[Operand.tmp 24], argTypes := #[33] }, _, _, _, none⟩ ⟨some 5, Op.alloc 33, _, _, _, none⟩ (by kernel_rfl) rfl rfl (by kernel_rfl) (by kernel_rfl) (fun KC hK => ?_) (fun KC hK => ?_)
      ·
        go_wp2_with fail
        refine (versionOf_any (V k) _).mono ?_
        rintro r w2 ⟨rfl, hb⟩
        have h4 := (⟨hHeld.1.next hb, below_nx hHeld.2 hb⟩ : _ ∧ _)
        first | (have HG := (show Hid (Bx _ _ [.int .i64 0, .string ⟨#[]⟩, .string ⟨#[]⟩, .int .i64 0, .int .i64 0, .bool false]) from HG.out.next hb)) | skip
        clear hb
        refine hK.out _ _ h4 (fun hHeld => ?_)
        clear hK KC
        refine ready_two 5 9 ⟨some 26, Op.call { callee := Callee.value (Operand.func 44), args := #[Operand.tmp 23, Operand.tmp 25], argTypes := #[23, 72] }, _, _, _, none⟩ ⟨some 5, Op.alloc 33, _, _, _, none⟩ (by kernel_rfl) rfl rfl (by kernel_rfl) (by kernel_rfl) (fun KC hK => ?_) (fun KC hK => ?_)
        ·
          go_wp2_with fail
          refine (entryOf_any (some ⟨b, off, none⟩) k cap V (V k) _ (by omega) ((HS.out.1.below hHeld.2 (Nat.le_refl _)).less hk)).mono ?_
          rintro r w3 ⟨o, f, rfl, hF, hb⟩
          have HF : Hid (Found V k (V k) o f) := hF
          have h5 := (⟨hHeld.1.next hb, below_nx hHeld.2 hb⟩ : _ ∧ _)
          first | (have HG := (show Hid (Bx _ _ [.int .i64 0, .string ⟨#[]⟩, .string ⟨#[]⟩, .int .i64 0, .int .i64 0, .bool false]) from HG.out.next hb)) | skip
          clear hb hF
          refine hK.out _ _ h5 (fun hHeld => ?_)
          clear hK KC
          refine take_v (v := ?_) 6 ⟨some 20, Op.move (Operand.tmp 26), _, _, _, none⟩ rfl (fun _ _ _ h => h) ?_ hHeld ?_
          rotate_left
          · (intro W _; go_simp <;> (try with_reducible rfl))
          refine take_v (v := ?_) 7 ⟨some 27, Op.extract (Operand.tmp 20) 0, _, _, _, none⟩ rfl (fun _ _ _ h => h) ?_ hHeld ?_
          rotate_left
          · (intro W _; go_simp <;> (try with_reducible rfl))
          refine take_v (v := ?_) 8 ⟨some 28, Op.extract (Operand.tmp 20) 1, _, _, _, none⟩ rfl (fun _ _ _ h => h) ?_ hHeld ?_
          rotate_left
          · (intro W _; go_simp <;> (try with_reducible rfl))
          refine ready_call 9 ⟨some 5, Op.alloc 33, _, _, _, none⟩ (by kernel_rfl) rfl (by kernel_rfl) (fun KC hK => ?_)
          go_wp2_with fail
          have HG := (show Hid (Bx _ _ [.int .i64 0, .string ⟨#[]⟩, .string ⟨#[]⟩, .int .i64 0, .int .i64 0, .bool false]) from Bx.newOf hHeld.1 [.int .i64 0, .string ⟨#[]⟩, .string ⟨#[]⟩, .int .i64 0, .int .i64 0, .bool false] 33)
          have hne := Nat.ne_of_lt hHeld.1.2
          have hle := hHeld.2.size
          have h9 := (⟨hHeld.1.alloc (.cells #[.int .i64 0, .string ⟨#[]⟩, .string ⟨#[]⟩, .int .i64 0, .int .i64 0, .bool false] 33), hHeld.2.alloc hHeld.2.size (.cells #[.int .i64 0, .string ⟨#[]⟩, .string ⟨#[]⟩, .int .i64 0, .int .i64 0, .bool false] 33)⟩ : _ ∧ _)
          obtain ⟨wa, hwa⟩ := Bx.name HG.out
          first | rw [← hwa] at HG h9 ⊢ | (rw [alloc_drew] at hwa HG h9; rw [size_drew] at HG hne hle; rw [← hwa] at HG h9 ⊢)
          clear hwa
          refine hK.out _ _ h9 (fun hHeld => ?_)
          clear hK KC
          refine ready_call 10 ⟨none, Op.store 33 (Operand.tmp 5) (Operand.tmp 27), _, _, _, none⟩ (by kernel_rfl) rfl (by kernel_rfl) (fun KC hK => ?_)
          have d0 := HG.out.cell 0 rfl
          have d1 := HG.out.cell 1 rfl
          have d2 := HG.out.cell 2 rfl
          have d3 := HG.out.cell 3 rfl
          have d4 := HG.out.cell 4 rfl
          have d5 := HG.out.cell 5 rfl
          have z0 := HG.out.frz 0 (by simp)
          have z1 := HG.out.frz 1 (by simp)
          have z2 := HG.out.frz 2 (by simp)
          have z3 := HG.out.frz 3 (by simp)
          have z4 := HG.out.frz 4 (by simp)
          have z5 := HG.out.frz 5 (by simp)
          have sz := HG.out.2
          go_wp2_with fail
          have HO := (show Hid (Bx _ _ [.int .i64 o.f0, .string o.f1, .string o.f2, .int .i64 o.f3, .int .i64 o.f4, .bool o.f5]) from ((((((HG.out.set (k := 0) (by simp) (.int .i64 o.f0)).set (k := 1) (by simp) (.string o.f1)).set (k := 2) (by simp) (.string o.f2)).set (k := 3) (by simp) (.int .i64 o.f3)).set (k := 4) (by simp) (.int .i64 o.f4)).set (k := 5) (by simp) (.bool o.f5)))
          clear d0 d1 d2 d3 d4 d5 z0 z1 z2 z3 z4 z5 sz HG
          refine hK.out _ _ ⟨((((((hHeld.1.other hne).other hne).other hne).other hne).other hne).other hne), ((((((hHeld.2.setCell (by exact hle) _).setCell (by exact hle) _).setCell (by exact hle) _).setCell (by exact hle) _).setCell (by exact hle) _).setCell (by exact hle) _)⟩ (fun hHeld => ?_)
          clear hK KC
          refine take_v (v := ?_) 11 ⟨some 6, Op.assign (Operand.tmp 28), _, _, _, none⟩ rfl (fun _ _ _ h => h) ?_ hHeld ?_
          rotate_left
          · (intro W _; go_simp <;> (try with_reducible rfl))
          refine wpAnyH_done (by kernel_rfl) ?_ _
          refine NoPanic.normal ?_
          have HE := (show Hid _ from hHeld)
          clear hHeld
          cases f
          · have HY : Hid (entP V k) := by
              rcases HF.out with ⟨h, _⟩ | ⟨_, h⟩
              · cases h
              · exact entP_none ho h
            go_wp2
            go_roundw
            case rel => exact ⟨k + 1, by omega, by go_num, logP_up HP.out HY.out, HE.out.2⟩
            case measure => simp [intOf]; omega
          · have p2 := HE.out.1.cell 2 rfl
            have q2 := HO.out.cell 2 rfl
            have pz := HE.out.1.2
            have qz := HO.out.2
            have HJ : Hid (∃ j, j < k ∧ V j = o ∧ verV (V j) (V k) = true ∧ ∀ i, i < j → verV (V i) (V k) = false) := by
              rcases HF.out with ⟨_, h⟩ | ⟨h, _⟩
              · exact h
              · cases h
            clear HF HO
            cases he : (o.f2.toList == (V k).f2.toList)
            · have HN : Hid (logB V n = false) := by
                obtain ⟨j, hj, e, hv, hno⟩ := HJ.out
                exact logB_clash hlt hj hv (by rw [e]; exact he)
              go_wp2
              go_ret
              exact ⟨ret_bool HN.out.symm, HE.out.2⟩
            · have HY : Hid (entP V k) := by
                obtain ⟨j, hj, e, hv, hno⟩ := HJ.out
                exact entP_first HP.out ho hj hv hno (by rw [e]; exact he)
              go_wp2
              go_roundw
              case rel => exact ⟨k + 1, by omega, by go_num, logP_up HP.out HY.out, HE.out.2⟩
              case measure => simp [intOf]; omega
        ·
          go_wp2_with fail
          have HG := (show Hid (Bx _ _ [.int .i64 0, .string ⟨#[]⟩, .string ⟨#[]⟩, .int .i64 0, .int .i64 0, .bool false]) from Bx.newOf hHeld.1 [.int .i64 0, .string ⟨#[]⟩, .string ⟨#[]⟩, .int .i64 0, .int .i64 0, .bool false] 33)
          have hne := Nat.ne_of_lt hHeld.1.2
          have hle := hHeld.2.size
          have h9 := (⟨hHeld.1.alloc (.cells #[.int .i64 0, .string ⟨#[]⟩, .string ⟨#[]⟩, .int .i64 0, .int .i64 0, .bool false] 33), hHeld.2.alloc hHeld.2.size (.cells #[.int .i64 0, .string ⟨#[]⟩, .string ⟨#[]⟩, .int .i64 0, .int .i64 0, .bool false] 33)⟩ : _ ∧ _)
          obtain ⟨wa, hwa⟩ := Bx.name HG.out
          first | rw [← hwa] at HG h9 ⊢ | (rw [alloc_drew] at hwa HG h9; rw [size_drew] at HG hne hle; rw [← hwa] at HG h9 ⊢)
          clear hwa
          refine hK.out _ _ h9 (fun hHeld => ?_)
          clear hK KC
          refine ready_call 5 ⟨some 26, Op.call { callee := Callee.value (Operand.func 44), args := #[Operand.tmp 23, Operand.tmp 25], argTypes := #[23, 72] }, _, _, _, none⟩ (by kernel_rfl) rfl (by kernel_rfl) (fun KC hK => ?_)
          go_wp2_with fail
          refine (entryOf_any (some ⟨b, off, none⟩) k cap V (V k) _ (by omega) ((HS.out.1.below hHeld.2 (Nat.le_refl _)).less hk)).mono ?_
          rintro r w3 ⟨o, f, rfl, hF, hb⟩
          have HF : Hid (Found V k (V k) o f) := hF
          have h5 := (⟨hHeld.1.next hb, below_nx hHeld.2 hb⟩ : _ ∧ _)
          first | (have HG := (show Hid (Bx _ _ [.int .i64 0, .string ⟨#[]⟩, .string ⟨#[]⟩, .int .i64 0, .int .i64 0, .bool false]) from HG.out.next hb)) | skip
          clear hb hF
          refine hK.out _ _ h5 (fun hHeld => ?_)
          clear hK KC
          refine take_v (v := ?_) 6 ⟨some 20, Op.move (Operand.tmp 26), _, _, _, none⟩ rfl (fun _ _ _ h => h) ?_ hHeld ?_
          rotate_left
          · (intro W _; go_simp <;> (try with_reducible rfl))
          refine take_v (v := ?_) 7 ⟨some 27, Op.extract (Operand.tmp 20) 0, _, _, _, none⟩ rfl (fun _ _ _ h => h) ?_ hHeld ?_
          rotate_left
          · (intro W _; go_simp <;> (try with_reducible rfl))
          refine take_v (v := ?_) 8 ⟨some 28, Op.extract (Operand.tmp 20) 1, _, _, _, none⟩ rfl (fun _ _ _ h => h) ?_ hHeld ?_
          rotate_left
          · (intro W _; go_simp <;> (try with_reducible rfl))
          refine ready_call 10 ⟨none, Op.store 33 (Operand.tmp 5) (Operand.tmp 27), _, _, _, none⟩ (by kernel_rfl) rfl (by kernel_rfl) (fun KC hK => ?_)
          have d0 := HG.out.cell 0 rfl
          have d1 := HG.out.cell 1 rfl
          have d2 := HG.out.cell 2 rfl
          have d3 := HG.out.cell 3 rfl
          have d4 := HG.out.cell 4 rfl
          have d5 := HG.out.cell 5 rfl
          have z0 := HG.out.frz 0 (by simp)
          have z1 := HG.out.frz 1 (by simp)
          have z2 := HG.out.frz 2 (by simp)
          have z3 := HG.out.frz 3 (by simp)
          have z4 := HG.out.frz 4 (by simp)
          have z5 := HG.out.frz 5 (by simp)
          have sz := HG.out.2
          go_wp2_with fail
          have HO := (show Hid (Bx _ _ [.int .i64 o.f0, .string o.f1, .string o.f2, .int .i64 o.f3, .int .i64 o.f4, .bool o.f5]) from ((((((HG.out.set (k := 0) (by simp) (.int .i64 o.f0)).set (k := 1) (by simp) (.string o.f1)).set (k := 2) (by simp) (.string o.f2)).set (k := 3) (by simp) (.int .i64 o.f3)).set (k := 4) (by simp) (.int .i64 o.f4)).set (k := 5) (by simp) (.bool o.f5)))
          clear d0 d1 d2 d3 d4 d5 z0 z1 z2 z3 z4 z5 sz HG
          refine hK.out _ _ ⟨((((((hHeld.1.other hne).other hne).other hne).other hne).other hne).other hne), ((((((hHeld.2.setCell (by exact hle) _).setCell (by exact hle) _).setCell (by exact hle) _).setCell (by exact hle) _).setCell (by exact hle) _).setCell (by exact hle) _)⟩ (fun hHeld => ?_)
          clear hK KC
          refine take_v (v := ?_) 11 ⟨some 6, Op.assign (Operand.tmp 28), _, _, _, none⟩ rfl (fun _ _ _ h => h) ?_ hHeld ?_
          rotate_left
          · (intro W _; go_simp <;> (try with_reducible rfl))
          refine wpAnyH_done (by kernel_rfl) ?_ _
          refine NoPanic.normal ?_
          have HE := (show Hid _ from hHeld)
          clear hHeld
          cases f
          · have HY : Hid (entP V k) := by
              rcases HF.out with ⟨h, _⟩ | ⟨_, h⟩
              · cases h
              · exact entP_none ho h
            go_wp2
            go_roundw
            case rel => exact ⟨k + 1, by omega, by go_num, logP_up HP.out HY.out, HE.out.2⟩
            case measure => simp [intOf]; omega
          · have p2 := HE.out.1.cell 2 rfl
            have q2 := HO.out.cell 2 rfl
            have pz := HE.out.1.2
            have qz := HO.out.2
            have HJ : Hid (∃ j, j < k ∧ V j = o ∧ verV (V j) (V k) = true ∧ ∀ i, i < j → verV (V i) (V k) = false) := by
              rcases HF.out with ⟨_, h⟩ | ⟨h, _⟩
              · exact h
              · cases h
            clear HF HO
            cases he : (o.f2.toList == (V k).f2.toList)
            · have HN : Hid (logB V n = false) := by
                obtain ⟨j, hj, e, hv, hno⟩ := HJ.out
                exact logB_clash hlt hj hv (by rw [e]; exact he)
              go_wp2
              go_ret
              exact ⟨ret_bool HN.out.symm, HE.out.2⟩
            · have HY : Hid (entP V k) := by
                obtain ⟨j, hj, e, hv, hno⟩ := HJ.out
                exact entP_first HP.out ho hj hv hno (by rw [e]; exact he)
              go_wp2
              go_roundw
              case rel => exact ⟨k + 1, by omega, by go_num, logP_up HP.out HY.out, HE.out.2⟩
              case measure => simp [intOf]; omega
      ·
        go_wp2_with fail
        have HG := (show Hid (Bx _ _ [.int .i64 0, .string ⟨#[]⟩, .string ⟨#[]⟩, .int .i64 0, .int .i64 0, .bool false]) from Bx.newOf hHeld.1 [.int .i64 0, .string ⟨#[]⟩, .string ⟨#[]⟩, .int .i64 0, .int .i64 0, .bool false] 33)
        have hne := Nat.ne_of_lt hHeld.1.2
        have hle := hHeld.2.size
        have h9 := (⟨hHeld.1.alloc (.cells #[.int .i64 0, .string ⟨#[]⟩, .string ⟨#[]⟩, .int .i64 0, .int .i64 0, .bool false] 33), hHeld.2.alloc hHeld.2.size (.cells #[.int .i64 0, .string ⟨#[]⟩, .string ⟨#[]⟩, .int .i64 0, .int .i64 0, .bool false] 33)⟩ : _ ∧ _)
        obtain ⟨wa, hwa⟩ := Bx.name HG.out
        first | rw [← hwa] at HG h9 ⊢ | (rw [alloc_drew] at hwa HG h9; rw [size_drew] at HG hne hle; rw [← hwa] at HG h9 ⊢)
        clear hwa
        refine hK.out _ _ h9 (fun hHeld => ?_)
        clear hK KC
        refine ready_call 4 ⟨some 25, Op.call { callee := Callee.value (Operand.func 45), args := #[Operand.tmp 24], argTypes := #[33] }, _, _, _, none⟩ (by kernel_rfl) rfl (by kernel_rfl) (fun KC hK => ?_)
        go_wp2_with fail
        refine (versionOf_any (V k) _).mono ?_
        rintro r w2 ⟨rfl, hb⟩
        have h4 := (⟨hHeld.1.next hb, below_nx hHeld.2 hb⟩ : _ ∧ _)
        first | (have HG := (show Hid (Bx _ _ [.int .i64 0, .string ⟨#[]⟩, .string ⟨#[]⟩, .int .i64 0, .int .i64 0, .bool false]) from HG.out.next hb)) | skip
        clear hb
        refine hK.out _ _ h4 (fun hHeld => ?_)
        clear hK KC
        refine ready_call 5 ⟨some 26, Op.call { callee := Callee.value (Operand.func 44), args := #[Operand.tmp 23, Operand.tmp 25], argTypes := #[23, 72] }, _, _, _, none⟩ (by kernel_rfl) rfl (by kernel_rfl) (fun KC hK => ?_)
        go_wp2_with fail
        refine (entryOf_any (some ⟨b, off, none⟩) k cap V (V k) _ (by omega) ((HS.out.1.below hHeld.2 (Nat.le_refl _)).less hk)).mono ?_
        rintro r w3 ⟨o, f, rfl, hF, hb⟩
        have HF : Hid (Found V k (V k) o f) := hF
        have h5 := (⟨hHeld.1.next hb, below_nx hHeld.2 hb⟩ : _ ∧ _)
        first | (have HG := (show Hid (Bx _ _ [.int .i64 0, .string ⟨#[]⟩, .string ⟨#[]⟩, .int .i64 0, .int .i64 0, .bool false]) from HG.out.next hb)) | skip
        clear hb hF
        refine hK.out _ _ h5 (fun hHeld => ?_)
        clear hK KC
        refine take_v (v := ?_) 6 ⟨some 20, Op.move (Operand.tmp 26), _, _, _, none⟩ rfl (fun _ _ _ h => h) ?_ hHeld ?_
        rotate_left
        · (intro W _; go_simp <;> (try with_reducible rfl))
        refine take_v (v := ?_) 7 ⟨some 27, Op.extract (Operand.tmp 20) 0, _, _, _, none⟩ rfl (fun _ _ _ h => h) ?_ hHeld ?_
        rotate_left
        · (intro W _; go_simp <;> (try with_reducible rfl))
        refine take_v (v := ?_) 8 ⟨some 28, Op.extract (Operand.tmp 20) 1, _, _, _, none⟩ rfl (fun _ _ _ h => h) ?_ hHeld ?_
        rotate_left
        · (intro W _; go_simp <;> (try with_reducible rfl))
        refine ready_call 10 ⟨none, Op.store 33 (Operand.tmp 5) (Operand.tmp 27), _, _, _, none⟩ (by kernel_rfl) rfl (by kernel_rfl) (fun KC hK => ?_)
        have d0 := HG.out.cell 0 rfl
        have d1 := HG.out.cell 1 rfl
        have d2 := HG.out.cell 2 rfl
        have d3 := HG.out.cell 3 rfl
        have d4 := HG.out.cell 4 rfl
        have d5 := HG.out.cell 5 rfl
        have z0 := HG.out.frz 0 (by simp)
        have z1 := HG.out.frz 1 (by simp)
        have z2 := HG.out.frz 2 (by simp)
        have z3 := HG.out.frz 3 (by simp)
        have z4 := HG.out.frz 4 (by simp)
        have z5 := HG.out.frz 5 (by simp)
        have sz := HG.out.2
        go_wp2_with fail
        have HO := (show Hid (Bx _ _ [.int .i64 o.f0, .string o.f1, .string o.f2, .int .i64 o.f3, .int .i64 o.f4, .bool o.f5]) from ((((((HG.out.set (k := 0) (by simp) (.int .i64 o.f0)).set (k := 1) (by simp) (.string o.f1)).set (k := 2) (by simp) (.string o.f2)).set (k := 3) (by simp) (.int .i64 o.f3)).set (k := 4) (by simp) (.int .i64 o.f4)).set (k := 5) (by simp) (.bool o.f5)))
        clear d0 d1 d2 d3 d4 d5 z0 z1 z2 z3 z4 z5 sz HG
        refine hK.out _ _ ⟨((((((hHeld.1.other hne).other hne).other hne).other hne).other hne).other hne), ((((((hHeld.2.setCell (by exact hle) _).setCell (by exact hle) _).setCell (by exact hle) _).setCell (by exact hle) _).setCell (by exact hle) _).setCell (by exact hle) _)⟩ (fun hHeld => ?_)
        clear hK KC
        refine take_v (v := ?_) 11 ⟨some 6, Op.assign (Operand.tmp 28), _, _, _, none⟩ rfl (fun _ _ _ h => h) ?_ hHeld ?_
        rotate_left
        · (intro W _; go_simp <;> (try with_reducible rfl))
        refine wpAnyH_done (by kernel_rfl) ?_ _
        refine NoPanic.normal ?_
        have HE := (show Hid _ from hHeld)
        clear hHeld
        cases f
        · have HY : Hid (entP V k) := by
            rcases HF.out with ⟨h, _⟩ | ⟨_, h⟩
            · cases h
            · exact entP_none ho h
          go_wp2
          go_roundw
          case rel => exact ⟨k + 1, by omega, by go_num, logP_up HP.out HY.out, HE.out.2⟩
          case measure => simp [intOf]; omega
        · have p2 := HE.out.1.cell 2 rfl
          have q2 := HO.out.cell 2 rfl
          have pz := HE.out.1.2
          have qz := HO.out.2
          have HJ : Hid (∃ j, j < k ∧ V j = o ∧ verV (V j) (V k) = true ∧ ∀ i, i < j → verV (V i) (V k) = false) := by
            rcases HF.out with ⟨_, h⟩ | ⟨h, _⟩
            · exact h
            · cases h
          clear HF HO
          cases he : (o.f2.toList == (V k).f2.toList)
          · have HN : Hid (logB V n = false) := by
              obtain ⟨j, hj, e, hv, hno⟩ := HJ.out
              exact logB_clash hlt hj hv (by rw [e]; exact he)
            go_wp2
            go_ret
            exact ⟨ret_bool HN.out.symm, HE.out.2⟩
          · have HY : Hid (entP V k) := by
              obtain ⟨j, hj, e, hv, hno⟩ := HJ.out
              exact entP_first HP.out ho hj hv hno (by rw [e]; exact he)
            go_wp2
            go_roundw
            case rel => exact ⟨k + 1, by omega, by go_num, logP_up HP.out HY.out, HE.out.2⟩
            case measure => simp [intOf]; omega
    · have hkn : k = n := by omega
      subst hkn
      have HN : Hid (logB V k = true) := logB_yes HS.out.2.2.1 hall
      have HB : Hid (Below w.heap.size w wr) := hBr
      clear hall hBr
      go_wp2
      go_ret
      exact ⟨ret_bool HN.out.symm, HB.out⟩
end Go.Proofs.Ytiepfdkfadbllaa
