/- The contract of areLooks. -/
import Derived.Test.YtenfaofhoheleaaGreatGsA
namespace Go.Proofs.YtenfaofhoheleaaGreat
open Go.RowKit
set_option linter.unusedVariables false

theorem lookOk_is (v : LookV) : lookOk v = (keyOk v.f0 && (valOk v.f1 && (goodT v.f2 v.f3 && !v.f4))) := rfl
theorem no_look {L : Nat → LookV} {n k : Nat} (hk : k < n) (h : lookOk (L k) = false) : clB (n ≤ 40 ∧ looksP L n) = false := clB_no fun g => by rw [(g.2 k hk).1] at h; cases h
theorem no_twice {L : Nat → LookV} {n k : Nat} (hk : k < n) (h : ∃ j, j < k ∧ (L j).f0.toList = (L k).f0.toList) : clB (n ≤ 40 ∧ looksP L n) = false := clB_no fun g => by
  obtain ⟨j, h1, h2⟩ := h
  exact (g.2 k hk).2 j h1 h2
set_option maxRecDepth 100000 in
set_option maxHeartbeats 4000000 in
theorem areLooks_any (a : Option Addr) (n cap : Nat) (L : Nat → LookV) (w : World) (hn : n ≤ 1048576) (hcap : n ≤ cap) (hz : ∀ i, i < n → (L i).f0.size ≤ maxLen ∧ (L i).f1.size ≤ maxLen) (hs : Sl w a n 5 (lookF L)) :
    Calls Tryz.prog 85 #[.slice a n cap] w fun r w' => r = .returned (.bool (clB (n ≤ 40 ∧ looksP L n))) ∧ Below w.heap.size w w' := by
  by_cases h80 : n ≤ 40
  case neg =>
    have h80' : (40 : Int) < (n : Int) := by omega
    have HN : Hid (clB (n ≤ 40 ∧ looksP L n) = false) := clB_no fun g => h80 g.1
    clear hs h80 hz
    go_enter Tryz.func85, Tryz.ntmps85
    go_wp2
    go_ret
    exact ⟨ret_bool HN.out.symm, Below.refl _ _⟩
  have h80' : ¬ (40 : Int) < (n : Int) := by omega
  have HS : Hid (Sl w a n 5 (lookF L) ∧ (∀ i, i < n → (L i).f0.size ≤ maxLen ∧ (L i).f1.size ≤ maxLen) ∧ n ≤ 40 ∧ n ≤ cap) := ⟨hs, hz, h80, hcap⟩
  clear hs hz
  go_enter Tryz.func85, Tryz.ntmps85
  go_wp2
  go_loopw [12] (fun i wr => ∃ k : Nat, k ≤ n ∧ i = .int .i64 k ∧ looksP L k ∧ Below w.heap.size w wr) (fun i _ => n - (intOf i).toNat)
  case atStart => exact ⟨0, Nat.zero_le _, rfl, fun i hi => absurd hi (by omega), Below.refl _ _⟩
  case round =>
    obtain ⟨k, hk, rfl, hall, hBr⟩ := hrel
    by_cases hlt : k < n
    · rcases HS.out.1.below hBr (Nat.le_refl _) with h | ⟨b, off, rfl, hbs, hE⟩
      · omega
      have hlt' : (k : Int) < (n : Int) := by omega
      have hkc : (k : Int) ≤ (cap : Int) := by omega
      obtain ⟨c0, c1, c2, c3, c4⟩ := look_cells hE hlt
      have H0 : Hid (looksP L k ∧ Below w.heap.size w wr ∧ Bx (wr.alloc (.cells #[.string (L k).f0, .string (L k).f1, .int .i64 (L k).f2, .int .i64 (L k).f3, .bool (L k).f4] 110)) wr.heap.size [.string (L k).f0, .string (L k).f1, .int .i64 (L k).f2, .int .i64 (L k).f3, .bool (L k).f4]) := ⟨hall, hBr, Bx.new wr [.string (L k).f0, .string (L k).f1, .int .i64 (L k).f2, .int .i64 (L k).f3, .bool (L k).f4] _⟩
      clear hall hBr hE
      have HC : Hid (lookOk (L k) = (keyOk (L k).f0 && (valOk (L k).f1 && (goodT (L k).f2 (L k).f3 && !(L k).f4)))) := rfl
      cases e1 : keyOk (L k).f0
      · have HN : Hid (clB (n ≤ 40 ∧ looksP L n) = false) := no_look hlt (by rw [HC.out, e1]; rfl)
        go_wp2_with (first
        | (go_at_call 82; refine (isKey_any _ _ (HS.out.2.1 k hlt).1).mono ?_; rintro e w' ⟨rfl, rfl⟩)
        | (go_at_call 83; refine (isValue_any _ _ (HS.out.2.1 k hlt).2).mono ?_; rintro e w' ⟨rfl, rfl⟩))
        go_ret
        exact ⟨ret_bool HN.out.symm, H0.out.2.1.alloc H0.out.2.1.size _⟩
      cases e2 : valOk (L k).f1
      · have HN : Hid (clB (n ≤ 40 ∧ looksP L n) = false) := no_look hlt (by rw [HC.out, e1, e2]; rfl)
        go_wp2_with (first
        | (go_at_call 82; refine (isKey_any _ _ (HS.out.2.1 k hlt).1).mono ?_; rintro e w' ⟨rfl, rfl⟩)
        | (go_at_call 83; refine (isValue_any _ _ (HS.out.2.1 k hlt).2).mono ?_; rintro e w' ⟨rfl, rfl⟩))
        go_ret
        exact ⟨ret_bool HN.out.symm, H0.out.2.1.alloc H0.out.2.1.size _⟩
      go_wp2_with (first
        | (go_at_call 82; refine (isKey_any _ _ (HS.out.2.1 k hlt).1).mono ?_; rintro e w' ⟨rfl, rfl⟩)
        | (go_at_call 83; refine (isValue_any _ _ (HS.out.2.1 k hlt).2).mono ?_; rintro e w' ⟨rfl, rfl⟩))
      refine (goodTid_any _ _ _ _).mono ?_
      rintro r w1 ⟨rfl, hb⟩
      have H1 : Hid (Bx w1 wr.heap.size [.string (L k).f0, .string (L k).f1, .int .i64 (L k).f2, .int .i64 (L k).f3, .bool (L k).f4] ∧ Below w.heap.size w w1) := ⟨H0.out.2.2.next hb, below_next' (below_next' H0.out.2.1 (Go.Joins.below_alloc1 _ _)) hb⟩
      have HP : Hid (looksP L k) := H0.out.1
      clear hb H0 c0 c1 c2 c3 c4
      have c4 := H1.out.1.cell 4 rfl
      have cz := H1.out.1.2
      cases e3 : goodT (L k).f2 (L k).f3
      · have HN : Hid (clB (n ≤ 40 ∧ looksP L n) = false) := no_look hlt (by rw [HC.out, e1, e2, e3]; rfl)
        go_wp2
        go_ret
        exact ⟨ret_bool HN.out.symm, H1.out.2⟩
      cases e4 : (L k).f4
      case true =>
        have HN : Hid (clB (n ≤ 40 ∧ looksP L n) = false) := no_look hlt (by rw [HC.out, e1, e2, e3, e4]; rfl)
        rw [e4] at c4
        go_wp2
        go_ret
        exact ⟨ret_bool HN.out.symm, H1.out.2⟩
      have HO : Hid (lookOk (L k) = true) := by show _ = _; rw [HC.out, e1, e2, e3, e4]; rfl
      rw [e4] at c4
      have H1d : Hid (Bx w1.drew wr.heap.size [.string (L k).f0, .string (L k).f1, .int .i64 (L k).f2, .int .i64 (L k).f3, .bool (L k).f4] ∧ Below w.heap.size w w1.drew) := ⟨H1.out.1.next (Below.refl _ _).drew, below_next' H1.out.2 (Below.refl _ _).drew⟩
      clear H1 HC
      go_upto_region 8 with fail
      clear c4 cz e4
      refine wp_region_noPanic ?_
      refine wp_region_held_drew (S := fun W => Bx W wr.heap.size [.string (L k).f0, .string (L k).f1, .int .i64 (L k).f2, .int .i64 (L k).f3, .bool (L k).f4] ∧ Below w.heap.size w W) (by kernel_rfl) H1d.out (fun hHeld => ?_)
      refine take_v (v := ?_) 0 ⟨some 39, Op.move (Operand.tmp 0), _, _, _, none⟩ rfl (fun _ _ _ h => h) ?_ hHeld ?_
      rotate_left
      · (intro W _; go_simp <;> (try with_reducible rfl))
      refine take_v (v := ?_) 1 ⟨some 40, Op.move (Operand.tmp 3), _, _, _, none⟩ rfl (fun _ _ _ h => h) ?_ hHeld ?_
      rotate_left
      · (intro W _; go_simp <;> (try with_reducible rfl))
      refine take_v (v := ?_) 2 ⟨some 41, Op.slice 69 (Operand.tmp 39) none (some (Operand.tmp 40)) none, _, _, _, none⟩ rfl (fun _ _ _ h => h) ?_ hHeld ?_
      rotate_left
      · (intro W _; go_simp <;> (try with_reducible rfl))
      refine take_v (v := ?_) 3 ⟨some 42, Op.fieldAddr 110 (Operand.tmp 4) 0, _, _, _, none⟩ rfl (fun _ _ _ h => h) ?_ hHeld ?_
      rotate_left
      · (intro W _; go_simp <;> (try with_reducible rfl))
      refine take_v (v := ?_) 4 ⟨some 43, Op.load 9 (Operand.tmp 42), _, _, _, none⟩ rfl (fun _ _ _ h => h) ?_ hHeld ?_
      rotate_left
      · (intro W hSW; (have s0 := hSW.1.cell 0 rfl; have s6 := hSW.1.2); go_simp <;> (try with_reducible rfl))
      refine ready_two 5 9 ⟨some 44, Op.call { callee := Callee.value (Operand.func 104), args := #[Operand.tmp 41, Operand.tmp 43], argTypes := #[69, 9] }, _, _, _, none⟩ ⟨some 5, Op.alloc 110, _, _, _, none⟩ (by kernel_rfl) rfl rfl (by kernel_rfl) (by kernel_rfl) (fun KC hK => ?_) (fun KC hK => ?_)
      ·
        go_wp2_with fail
        refine (lookAt_any (some ⟨b, off, none⟩) k cap L (L k).f0 _ (by omega) ((HS.out.1.below hHeld.2 (Nat.le_refl _)).less hk)).mono ?_
        rintro r w3 ⟨o, f, rfl, hF, hb⟩
        have HF : Hid (FoundL L k (L k).f0 f) := hF
        have h5 := (⟨hHeld.1.next hb, below_next' hHeld.2 hb⟩ : _ ∧ _)
        first | (have HG := (show Hid (Bx _ _ [.string ⟨#[]⟩, .string ⟨#[]⟩, .int .i64 0, .int .i64 0, .bool false]) from HG.out.next hb)) | skip
        clear hb hF
        refine hK.out _ _ h5 (fun hHeld => ?_)
        clear hK KC
        refine take_v (v := ?_) 6 ⟨some 38, Op.move (Operand.tmp 44), _, _, _, none⟩ rfl (fun _ _ _ h => h) ?_ hHeld ?_
        rotate_left
        · (intro W _; go_simp <;> (try with_reducible rfl))
        refine take_v (v := ?_) 7 ⟨some 45, Op.extract (Operand.tmp 38) 0, _, _, _, none⟩ rfl (fun _ _ _ h => h) ?_ hHeld ?_
        rotate_left
        · (intro W _; go_simp <;> (try with_reducible rfl))
        refine take_v (v := ?_) 8 ⟨some 46, Op.extract (Operand.tmp 38) 1, _, _, _, none⟩ rfl (fun _ _ _ h => h) ?_ hHeld ?_
        rotate_left
        · (intro W _; go_simp <;> (try with_reducible rfl))
        refine ready_call 9 ⟨some 5, Op.alloc 110, _, _, _, none⟩ (by kernel_rfl) rfl (by kernel_rfl) (fun KC hK => ?_)
        go_wp2_with fail
        have HG := (show Hid (Bx _ _ [.string ⟨#[]⟩, .string ⟨#[]⟩, .int .i64 0, .int .i64 0, .bool false]) from Bx.newOf hHeld.1 [.string ⟨#[]⟩, .string ⟨#[]⟩, .int .i64 0, .int .i64 0, .bool false] 110)
        have hne := Nat.ne_of_lt hHeld.1.2
        have hle := hHeld.2.size
        have h9 := (⟨hHeld.1.alloc (.cells #[.string ⟨#[]⟩, .string ⟨#[]⟩, .int .i64 0, .int .i64 0, .bool false] 110), hHeld.2.alloc hHeld.2.size (.cells #[.string ⟨#[]⟩, .string ⟨#[]⟩, .int .i64 0, .int .i64 0, .bool false] 110)⟩ : _ ∧ _)
        obtain ⟨wa, hwa⟩ := Bx.name HG.out
        first | rw [← hwa] at HG h9 ⊢ | (rw [alloc_drew] at hwa HG h9; rw [size_drew] at HG hne hle; rw [← hwa] at HG h9 ⊢)
        clear hwa
        refine hK.out _ _ h9 (fun hHeld => ?_)
        clear hK KC
        refine ready_call 10 ⟨none, Op.store 110 (Operand.tmp 5) (Operand.tmp 45), _, _, _, none⟩ (by kernel_rfl) rfl (by kernel_rfl) (fun KC hK => ?_)
        have d0 := HG.out.cell 0 rfl
        have d1 := HG.out.cell 1 rfl
        have d2 := HG.out.cell 2 rfl
        have d3 := HG.out.cell 3 rfl
        have d4 := HG.out.cell 4 rfl
        have z0 := HG.out.frz 0 (by simp)
        have z1 := HG.out.frz 1 (by simp)
        have z2 := HG.out.frz 2 (by simp)
        have z3 := HG.out.frz 3 (by simp)
        have z4 := HG.out.frz 4 (by simp)
        have sz := HG.out.2
        go_wp2_with fail
        clear d0 d1 d2 d3 d4 z0 z1 z2 z3 z4 sz HG
        refine hK.out _ _ ⟨(((((hHeld.1.other hne).other hne).other hne).other hne).other hne), (((((hHeld.2.setCell (by exact hle) _).setCell (by exact hle) _).setCell (by exact hle) _).setCell (by exact hle) _).setCell (by exact hle) _)⟩ (fun hHeld => ?_)
        clear hK KC
        refine take_v (v := ?_) 11 ⟨some 6, Op.assign (Operand.tmp 46), _, _, _, none⟩ rfl (fun _ _ _ h => h) ?_ hHeld ?_
        rotate_left
        · (intro W _; go_simp <;> (try with_reducible rfl))
        refine wpAnyH_done (by kernel_rfl) ?_ _
        refine NoPanic.normal ?_
        have HE := (show Hid _ from hHeld)
        clear hHeld
        cases f
        · have HY : Hid (look1 L k) := ⟨HO.out, fun j h1 h2 => by have := HF.out.2 ⟨j, h1, h2⟩; cases this⟩
          go_wp2
          go_roundw
          case rel => exact ⟨k + 1, by omega, by go_num, upto_succ HP.out HY.out, HE.out.2⟩
          case measure => simp [intOf]; omega
        · have HN : Hid (clB (n ≤ 40 ∧ looksP L n) = false) := no_twice hlt (HF.out.1 rfl)
          go_wp2
          go_ret
          exact ⟨ret_bool HN.out.symm, HE.out.2⟩
      ·
        go_wp2_with fail
        have HG := (show Hid (Bx _ _ [.string ⟨#[]⟩, .string ⟨#[]⟩, .int .i64 0, .int .i64 0, .bool false]) from Bx.newOf hHeld.1 [.string ⟨#[]⟩, .string ⟨#[]⟩, .int .i64 0, .int .i64 0, .bool false] 110)
        have hne := Nat.ne_of_lt hHeld.1.2
        have hle := hHeld.2.size
        have h9 := (⟨hHeld.1.alloc (.cells #[.string ⟨#[]⟩, .string ⟨#[]⟩, .int .i64 0, .int .i64 0, .bool false] 110), hHeld.2.alloc hHeld.2.size (.cells #[.string ⟨#[]⟩, .string ⟨#[]⟩, .int .i64 0, .int .i64 0, .bool false] 110)⟩ : _ ∧ _)
        obtain ⟨wa, hwa⟩ := Bx.name HG.out
        first | rw [← hwa] at HG h9 ⊢ | (rw [alloc_drew] at hwa HG h9; rw [size_drew] at HG hne hle; rw [← hwa] at HG h9 ⊢)
        clear hwa
        refine hK.out _ _ h9 (fun hHeld => ?_)
        clear hK KC
        refine ready_call 5 ⟨some 44, Op.call { callee := Callee.value (Operand.func 104), args := #[Operand.tmp 41, Operand.tmp 43], argTypes := #[69, 9] }, _, _, _, none⟩ (by kernel_rfl) rfl (by kernel_rfl) (fun KC hK => ?_)
        go_wp2_with fail
        refine (lookAt_any (some ⟨b, off, none⟩) k cap L (L k).f0 _ (by omega) ((HS.out.1.below hHeld.2 (Nat.le_refl _)).less hk)).mono ?_
        rintro r w3 ⟨o, f, rfl, hF, hb⟩
        have HF : Hid (FoundL L k (L k).f0 f) := hF
        have h5 := (⟨hHeld.1.next hb, below_next' hHeld.2 hb⟩ : _ ∧ _)
        first | (have HG := (show Hid (Bx _ _ [.string ⟨#[]⟩, .string ⟨#[]⟩, .int .i64 0, .int .i64 0, .bool false]) from HG.out.next hb)) | skip
        clear hb hF
        refine hK.out _ _ h5 (fun hHeld => ?_)
        clear hK KC
        refine take_v (v := ?_) 6 ⟨some 38, Op.move (Operand.tmp 44), _, _, _, none⟩ rfl (fun _ _ _ h => h) ?_ hHeld ?_
        rotate_left
        · (intro W _; go_simp <;> (try with_reducible rfl))
        refine take_v (v := ?_) 7 ⟨some 45, Op.extract (Operand.tmp 38) 0, _, _, _, none⟩ rfl (fun _ _ _ h => h) ?_ hHeld ?_
        rotate_left
        · (intro W _; go_simp <;> (try with_reducible rfl))
        refine take_v (v := ?_) 8 ⟨some 46, Op.extract (Operand.tmp 38) 1, _, _, _, none⟩ rfl (fun _ _ _ h => h) ?_ hHeld ?_
        rotate_left
        · (intro W _; go_simp <;> (try with_reducible rfl))
        refine ready_call 10 ⟨none, Op.store 110 (Operand.tmp 5) (Operand.tmp 45), _, _, _, none⟩ (by kernel_rfl) rfl (by kernel_rfl) (fun KC hK => ?_)
        have d0 := HG.out.cell 0 rfl
        have d1 := HG.out.cell 1 rfl
        have d2 := HG.out.cell 2 rfl
        have d3 := HG.out.cell 3 rfl
        have d4 := HG.out.cell 4 rfl
        have z0 := HG.out.frz 0 (by simp)
        have z1 := HG.out.frz 1 (by simp)
        have z2 := HG.out.frz 2 (by simp)
        have z3 := HG.out.frz 3 (by simp)
        have z4 := HG.out.frz 4 (by simp)
        have sz := HG.out.2
        go_wp2_with fail
        clear d0 d1 d2 d3 d4 z0 z1 z2 z3 z4 sz HG
        refine hK.out _ _ ⟨(((((hHeld.1.other hne).other hne).other hne).other hne).other hne), (((((hHeld.2.setCell (by exact hle) _).setCell (by exact hle) _).setCell (by exact hle) _).setCell (by exact hle) _).setCell (by exact hle) _)⟩ (fun hHeld => ?_)
        clear hK KC
        refine take_v (v := ?_) 11 ⟨some 6, Op.assign (Operand.tmp 46), _, _, _, none⟩ rfl (fun _ _ _ h => h) ?_ hHeld ?_
        rotate_left
        · (intro W _; go_simp <;> (try with_reducible rfl))
        refine wpAnyH_done (by kernel_rfl) ?_ _
        refine NoPanic.normal ?_
        have HE := (show Hid _ from hHeld)
        clear hHeld
        cases f
        · have HY : Hid (look1 L k) := ⟨HO.out, fun j h1 h2 => by have := HF.out.2 ⟨j, h1, h2⟩; cases this⟩
          go_wp2
          go_roundw
          case rel => exact ⟨k + 1, by omega, by go_num, upto_succ HP.out HY.out, HE.out.2⟩
          case measure => simp [intOf]; omega
        · have HN : Hid (clB (n ≤ 40 ∧ looksP L n) = false) := no_twice hlt (HF.out.1 rfl)
          go_wp2
          go_ret
          exact ⟨ret_bool HN.out.symm, HE.out.2⟩
    · have hkn : k = n := by omega
      subst hkn
      have HN : Hid (clB (k ≤ 40 ∧ looksP L k) = true) := clB_yes ⟨HS.out.2.2.1, hall⟩
      have HB : Hid (Below w.heap.size w wr) := hBr
      clear hall hBr
      go_wp2
      go_ret
      exact ⟨ret_bool HN.out.symm, HB.out⟩
end Go.Proofs.YtenfaofhoheleaaGreat
