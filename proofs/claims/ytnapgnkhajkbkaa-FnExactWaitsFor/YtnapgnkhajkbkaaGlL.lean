/- The contract of GoodLocks. -/
import Derived.Test.YtnapgnkhajkbkaaGlA
namespace Go.Proofs.Ytnapgnkhajkbkaa
open Go.RowKit
set_option linter.unusedVariables false

theorem areHolds_is {n : Nat} {T M : Nat → Int} {q : Bool} (a : Option Addr) (cap : Nat) (w : World) (h : decide (holdsP T M n) = q) (hn : n ≤ 1048576) (hs : Sl w a n 2 (hdF T M)) :
    Calls Try.prog 50 #[.slice a n cap] w fun r w' => r = .returned (.bool q) ∧ Below w.heap.size w w' := h ▸ areHolds_any a n cap T M w hn hs
theorem areWaits_is {key : ByteArray} {ha wa : Option Addr} {hc wc : Nat} {h w' : HL} {q : Bool} (w : World) (e : decide (waitsP h w') = q) (hh : h.n ≤ 1048576) (hw : w'.n ≤ 1048576) (hwc : w'.n ≤ wc) (hs : Sl w ha h.n 2 (hdF h.t h.m)) (hs' : Sl w wa w'.n 2 (hdF w'.t w'.m)) :
    Calls Try.prog 51 #[.agg #[.string key, .slice ha h.n hc, .slice wa w'.n wc]] w fun r w2 => r = .returned (.bool q) ∧ Below w.heap.size w w2 := e ▸ areWaits_any key ha wa hc wc h w' w hh hw hwc hs hs'
theorem isKey_is {s : ByteArray} {q : Bool} (w : World) (h : keyOk s = q) (hs : s.size ≤ maxLen) :
    Calls Try.prog 49 #[.string s] w fun r w' => r = .returned (.bool q) ∧ w' = w := h ▸ isKey_any s w hs
theorem seen_step {V : Nat → LkV} {i j : Nat} {q : Nat} (h : (V i).w.t j = (q : Int)) : ∀ x : Nat, x < 1001 → (if x = q then true else seenB V i j (x : Int)) = seenB V i (j + 1) (x : Int) := by
  intro x _
  simp only [seenB, hasN, h]
  by_cases e : x = q
  · subst e; simp
  · have : ((q : Int) == (x : Int)) = false := by simp; omega
    simp [e, this]
theorem lockI_no {V : Nat → LkV} {n i : Nat} (hi : i < n) (h : ¬ lockI V i) : goodL V n = false := good_bad hi (fun g => h ((lock_same V i).1 g))

set_option maxRecDepth 100000 in
set_option maxHeartbeats 4000000 in
theorem goodLocks_any (a : Option Addr) (n cap : Nat) (V : Nat → LkV) (A : Nat → LkA) (w : World) (hn : n ≤ 1048576) (hz : ∀ i, i < n → LkOk (V i)) (hs : LkS w a n V A) :
    Calls Try.prog 16 #[.slice a n cap] w fun r w' => r = .returned (.bool (goodL V n)) ∧ Below w.heap.size w w' := by
  by_cases h20 : n ≤ 20
  case neg =>
    have h20' : (20 : Int) < (n : Int) := by omega
    have HN : Hid (goodL V n = false) := good_no (fun h => h20 h.1)
    clear hs h20 hz
    go_enter Try.func16, Try.ntmps16
    go_wp2
    go_ret
    exact ⟨ret_bool HN.out.symm, Below.refl _ _⟩
  case pos =>
  have h20' : ¬ (20 : Int) < (n : Int) := by omega
  have HS : Hid (LkS w a n V A ∧ ∀ i, i < n → LkOk (V i)) := ⟨hs, hz⟩
  clear hs hz
  go_enter Try.func16, Try.ntmps16
  go_upto_region 3 with fail
  refine wp_region_lit ?_
  refine Go.Great.wpList_runTo (by rfl) (some 3) (by rfl) (.pointer (some ⟨w.heap.size, 0, none⟩)) _ (exec_zeros _ _ rfl w) ?_
  obtain ⟨w0, hw0⟩ : ∃ x, x = w.alloc (.cells zerosB 82) := ⟨_, rfl⟩
  have HB0 : Hid (BigB w0 w.heap.size (fun _ => false) ∧ Below w.heap.size w w0) := by rw [hw0]; exact ⟨BigB.new w, Go.Joins.below_alloc1 _ _⟩
  rw [← hw0]
  clear hw0
  refine wpList_nil ?_
  go_wp2
  go_loopw [13] (fun x wr => ∃ i : Nat, i ≤ n ∧ x = .int .i64 i ∧ (∀ j, j < i → lockI V j) ∧ BigB wr w.heap.size (fun q => seenL V (q : Int) i) ∧ Below w.heap.size w wr) (fun x _ => n - (intOf x).toNat)
  case atStart => exact ⟨0, Nat.zero_le _, rfl, fun j hj => absurd hj (by omega), HB0.out.1, HB0.out.2⟩
  case round =>
    obtain ⟨i, hi, rfl, hall, hbb, hBr⟩ := hrel
    obtain ⟨wo, hwo⟩ : ∃ x, x = wr := ⟨wr, rfl⟩
    subst hwo
    clear HB0
    by_cases hlt : i < n
    · have hlt' : (i : Int) < (n : Int) := by omega
      have hsr := HS.out.1.next hBr
      have hat := hsr.2 i hlt
      have hok := HS.out.2 i hlt
      rcases hsr.1 with h | ⟨b, off, rfl, hbs, hE⟩
      · omega
      obtain ⟨c0, c1, c2⟩ := lk_cells hE hlt
      have hz : w.heap.size ≤ wo.heap.size := hBr.size
      have HT : Hid (LkS wo (some ⟨b, off, none⟩) n V A ∧ HdAt wo (A i) (V i) ∧ LkOk (V i)) := ⟨hsr, hat, hok⟩
      have HH : Hid ((∀ j, j < i → lockI V j) ∧ BigB wo w.heap.size (fun q => seenL V (q : Int) i) ∧ Below w.heap.size w wo) := ⟨hall, hbb, hBr⟩
      have hp : 0 < i → wo.cell? ⟨b, off + (i - 1) * 3, none⟩ = some (.string (V (i - 1)).key) := fun h => (lk_cells hE (show i - 1 < n by omega)).1
      clear hall hbb hBr hsr hat hok hE
      have hks : (V i).key.size ≤ maxLen := by have := HT.out.2.2.1; unfold maxLen; omega
      cases hk : keyOk (V i).key
      · have HN : Hid (goodL V n = false) := lockI_no hlt (fun g => by have := g.1.1.1; rw [hk] at this; cases this)
        clear hp
        go_wp2_with (go_at_call 49; refine (isKey_is _ hk hks).mono ?_; rintro e w' ⟨rfl, rfl⟩)
        go_ret
        exact ⟨ret_bool HN.out.symm, HH.out.2.2.alloc hz _⟩
      obtain ⟨f1, hf1⟩ : ∃ f, decide (holdsP (V i).h.t (V i).h.m (V i).h.n) = f := ⟨_, rfl⟩
      go_wp2_with fail
      refine (isKey_is _ hk hks).mono ?_
      rintro e w' ⟨rfl, hw'⟩
      have hw' := hw'.symm
      subst hw'
      go_wp2_with fail
      refine (areHolds_is _ _ _ hf1 HT.out.2.2.2.1 (HT.out.2.1.1.kept (Go.Joins.below_alloc1 _ _))).mono ?_
      rintro e w1 ⟨rfl, hb1⟩
      have hB1 : Below wo.heap.size wo w1 := (Go.Joins.below_alloc1 _ _).trans (hb1.mono (by simp))
      have hx1 := (Bx.new wo [.string (V i).key, .slice (A i).ha (V i).h.n (A i).hc, .slice (A i).wa (V i).w.n (A i).wc] 48).next hb1
      have b0 := hx1.cell 0 rfl
      have b1 := hx1.cell 1 rfl
      have b2 := hx1.cell 2 rfl
      have bz := hx1.2
      have H1 : Hid (Bx w1 wo.heap.size [.string (V i).key, .slice (A i).ha (V i).h.n (A i).hc, .slice (A i).wa (V i).w.n (A i).wc] ∧ Below wo.heap.size wo w1 ∧ Below w.heap.size w w1) := ⟨hx1, hB1, below_next HH.out.2.2 hB1⟩
      clear hb1 hB1 hx1 c0 c1 c2
      cases f1
      · have HN : Hid (goodL V n = false) := lockI_no hlt (fun g => by have := g.1.2.1; rw [decide_eq_false_iff_not] at hf1; exact hf1 this)
        clear hp
        go_wp2
        go_ret
        exact ⟨ret_bool HN.out.symm, H1.out.2.2⟩
      obtain ⟨f2, hf2⟩ : ∃ f, decide (waitsP (V i).h (V i).w) = f := ⟨_, rfl⟩
      go_wp2_with fail
      refine (areWaits_is _ hf2 HT.out.2.2.2.1 HT.out.2.2.2.2 HT.out.2.1.2.2.2 (HT.out.2.1.1.kept H1.out.2.1) (HT.out.2.1.2.1.kept H1.out.2.1)).mono ?_
      rintro e w2 ⟨rfl, hb2⟩
      have hx2 := H1.out.1.next hb2
      have d0 := hx2.cell 0 rfl
      have d2 := hx2.cell 2 rfl
      have dz := hx2.2
      have H2 : Hid (Below wo.heap.size wo w2 ∧ Below w.heap.size w w2) := ⟨below_next H1.out.2.1 hb2, below_next H1.out.2.2 hb2⟩
      have HX2 : Hid (Bx w2 wo.heap.size [.string (V i).key, .slice (A i).ha (V i).h.n (A i).hc, .slice (A i).wa (V i).w.n (A i).wc]) := hx2
      clear hb2 H1 b0 b1 b2 bz hx2
      cases f2
      · have HN : Hid (goodL V n = false) := lockI_no hlt (fun g => by have := g.1.2.2; rw [decide_eq_false_iff_not] at hf2; exact hf2 this)
        clear hp
        go_wp2
        go_ret
        exact ⟨ret_bool HN.out.symm, H2.out.2⟩
      have HW : Hid (waitsP (V i).h (V i).w ∧ holdsP (V i).h.t (V i).h.m (V i).h.n) := ⟨by simpa using hf2, by simpa using hf1⟩
      clear hf1 hf2
      obtain ⟨w4, q9, hw4, HO⟩ : ∃ (w4 : World) (q9 : Bool), w4 = w2.drew ∧ Hid (q9 = (decide (0 < i) && !ltK V i)) := ⟨_, _, rfl, rfl⟩
      have HO9 : Hid (q9 = true → goodL V n = false) := fun e => lockI_no hlt (fun g => by
        have := HO.out; rw [e] at this
        simp only [Bool.true_eq, Bool.and_eq_true, decide_eq_true_eq, Bool.not_eq_true'] at this
        have h1 := g.1.1.2 this.1; rw [this.2] at h1; cases h1)
      have HO0 : Hid (q9 = false → 0 < i → ltK V i = true) := fun e h => by
        have := HO.out; rw [e] at this
        cases hl : ltK V i
        · simp [h, hl] at this
        · rfl
      go_upto_region 9 with fail
      go_cut [45] (fun s45 wx => s45 = .bool q9 ∧ wx = w2.drew)
      case first =>
        by_cases hk0 : i = 0
        · have hk0' : decide ((0 : Int) < (i : Int)) = false := by simp; omega
          have hk0n : decide (0 < i) = false := by simp; omega
          have HK : Hid (q9 = false) := by have := HO.out; rw [hk0n] at this; exact this
          have HK0 : Hid (i = 0) := hk0
          clear hp hk0
          refine wp_region_noPanic ?_
          refine wp_region_held_drew (S := fun W => W.cell? ⟨wo.heap.size, 0, none⟩ = some (.string (V i).key)) (by kernel_rfl) ((HX2.out.next (Below.refl _ _).drew).cell 0 rfl) (fun hHeld => ?_)
          refine take_v (v := ?_) 0 ⟨some 33, Op.move (Operand.tmp 4), _, _, _, none⟩ rfl (fun _ _ _ h => h) ?_ hHeld ?_
          rotate_left
          · (intro W _; go_simp <;> (try with_reducible rfl))
          refine take_v (v := ?_) 1 ⟨some 34, Op.binOp BinOp.gtr 3 (Operand.tmp 33) (Operand.const (Value.int IntKind.i64 0)) 3, _, _, _, none⟩ rfl (fun _ _ _ h => h) ?_ hHeld ?_
          rotate_left
          · (intro W _; go_simp <;> (try with_reducible rfl))
          refine take_v (v := ?_) 2 ⟨some 35, Op.move (Operand.tmp 34), _, _, _, none⟩ rfl (fun _ _ _ h => h) ?_ hHeld ?_
          rotate_left
          · (intro W _; go_simp <;> (try with_reducible rfl))
          refine take_n 3 ⟨some 36, Op.move (Operand.tmp 0), _, _, _, some (2, true)⟩ rfl (fun _ _ _ h => h) hHeld ?_
          refine take_n 4 ⟨some 37, Op.move (Operand.tmp 4), _, _, _, some (2, true)⟩ rfl (fun _ _ _ h => h) hHeld ?_
          refine take_n 5 ⟨some 38, Op.binOp BinOp.sub 3 (Operand.tmp 37) (Operand.const (Value.int IntKind.i64 1)) 3, _, _, _, some (2, true)⟩ rfl (fun _ _ _ h => h) hHeld ?_
          refine take_n 6 ⟨some 39, Op.indexAddr 25 (Operand.tmp 36) (Operand.tmp 38), _, _, _, some (2, true)⟩ rfl (fun _ _ _ h => h) hHeld ?_
          refine take_n 7 ⟨some 40, Op.fieldAddr 48 (Operand.tmp 39) 0, _, _, _, some (2, true)⟩ rfl (fun _ _ _ h => h) hHeld ?_
          refine take_n 8 ⟨some 41, Op.load 9 (Operand.tmp 40), _, _, _, some (2, true)⟩ rfl (fun _ _ _ h => h) hHeld ?_
          refine take_n 9 ⟨some 42, Op.fieldAddr 48 (Operand.tmp 5) 0, _, _, _, some (2, true)⟩ rfl (fun _ _ _ h => h) hHeld ?_
          refine take_n 10 ⟨some 43, Op.load 9 (Operand.tmp 42), _, _, _, some (2, true)⟩ rfl (fun _ _ _ h => h) hHeld ?_
          refine take_n 11 ⟨some 44, Op.binOp BinOp.geq 9 (Operand.tmp 41) (Operand.tmp 43) 9, _, _, _, some (2, true)⟩ rfl (fun _ _ _ h => h) hHeld ?_
          refine take_v (v := ?_) 12 ⟨some 45, Op.pick (Operand.tmp 35) (Operand.tmp 44) (Operand.const (Value.bool false)), _, _, _, none⟩ rfl (fun _ _ _ h => h) ?_ hHeld ?_
          rotate_left
          · (intro W _; go_simp <;> (try with_reducible rfl))
          refine wpAnyH_done (by kernel_rfl) ?_ _
          refine NoPanic.normal ?_
          go_wp2_with fail
          go_meet
          exact ⟨by rw [HK.out], rfl⟩
        · have hp1 := hp (by omega)
          obtain ⟨q, hq⟩ : ∃ q, q = i - 1 := ⟨_, rfl⟩
          rw [← hq] at hp1
          have hwq : IntKind.i64.wrap ((i : Int) - 1) = (q : Int) := by rw [IntKind.wrap_i64]; omega
          have hq0 : (0 : Int) < (i : Int) := by omega
          have hq0n : decide (0 < i) = true := by simp; omega
          have hqn : (q : Int) < (n : Int) := by omega
          have HK : Hid (q9 = !Op.bytesLess (V q).key.toList (V i).key.toList) := by have := HO.out; rw [hq0n, ltK, ← hq] at this; exact this
          have HP : Hid (w2.drew.cell? ⟨b, off + q * 3, none⟩ = some (.string (V q).key)) := (H2.out.1.drew.cell (p := ⟨b, off + q * 3, none⟩) hbs).trans hp1
          clear hp hp1 hk0 hq
          refine wp_region_noPanic ?_
          refine wp_region_held_drew (S := fun W => W.cell? ⟨wo.heap.size, 0, none⟩ = some (.string (V i).key) ∧ W.cell? ⟨b, off + q * 3, none⟩ = some (.string (V q).key)) (by kernel_rfl) ⟨(HX2.out.next (Below.refl _ _).drew).cell 0 rfl, HP.out⟩ (fun hHeld => ?_)
          refine take_v (v := ?_) 0 ⟨some 33, Op.move (Operand.tmp 4), _, _, _, none⟩ rfl (fun _ _ _ h => h) ?_ hHeld ?_
          rotate_left
          · (intro W _; go_simp <;> (try with_reducible rfl))
          refine take_v (v := ?_) 1 ⟨some 34, Op.binOp BinOp.gtr 3 (Operand.tmp 33) (Operand.const (Value.int IntKind.i64 0)) 3, _, _, _, none⟩ rfl (fun _ _ _ h => h) ?_ hHeld ?_
          rotate_left
          · (intro W _; go_simp <;> (try with_reducible rfl))
          refine take_v (v := ?_) 2 ⟨some 35, Op.move (Operand.tmp 34), _, _, _, none⟩ rfl (fun _ _ _ h => h) ?_ hHeld ?_
          rotate_left
          · (intro W _; go_simp <;> (try with_reducible rfl))
          refine take_v (v := ?_) 3 ⟨some 36, Op.move (Operand.tmp 0), _, _, _, some (2, true)⟩ rfl (fun _ _ _ h => h) ?_ hHeld ?_
          rotate_left
          · (intro W _; go_simp <;> (try with_reducible rfl))
          refine take_v (v := ?_) 4 ⟨some 37, Op.move (Operand.tmp 4), _, _, _, some (2, true)⟩ rfl (fun _ _ _ h => h) ?_ hHeld ?_
          rotate_left
          · (intro W _; go_simp <;> (try with_reducible rfl))
          refine take_v (v := ?_) 5 ⟨some 38, Op.binOp BinOp.sub 3 (Operand.tmp 37) (Operand.const (Value.int IntKind.i64 1)) 3, _, _, _, some (2, true)⟩ rfl (fun _ _ _ h => h) ?_ hHeld ?_
          rotate_left
          · (intro W _; go_simp <;> (try with_reducible rfl))
          refine take_v (v := ?_) 6 ⟨some 39, Op.indexAddr 25 (Operand.tmp 36) (Operand.tmp 38), _, _, _, some (2, true)⟩ rfl (fun _ _ _ h => h) ?_ hHeld ?_
          rotate_left
          · (intro W _; go_simp <;> (try with_reducible rfl))
          refine take_v (v := ?_) 7 ⟨some 40, Op.fieldAddr 48 (Operand.tmp 39) 0, _, _, _, some (2, true)⟩ rfl (fun _ _ _ h => h) ?_ hHeld ?_
          rotate_left
          · (intro W _; go_simp <;> (try with_reducible rfl))
          refine take_v (v := ?_) 8 ⟨some 41, Op.load 9 (Operand.tmp 40), _, _, _, some (2, true)⟩ rfl (fun _ _ _ h => h) ?_ hHeld ?_
          rotate_left
          · (intro W hSW; obtain ⟨sw0, sw1⟩ := hSW; go_simp <;> (try with_reducible rfl))
          refine take_v (v := ?_) 9 ⟨some 42, Op.fieldAddr 48 (Operand.tmp 5) 0, _, _, _, some (2, true)⟩ rfl (fun _ _ _ h => h) ?_ hHeld ?_
          rotate_left
          · (intro W _; go_simp <;> (try with_reducible rfl))
          refine take_v (v := ?_) 10 ⟨some 43, Op.load 9 (Operand.tmp 42), _, _, _, some (2, true)⟩ rfl (fun _ _ _ h => h) ?_ hHeld ?_
          rotate_left
          · (intro W hSW; obtain ⟨sw0, sw1⟩ := hSW; go_simp <;> (try with_reducible rfl))
          refine take_v (v := ?_) 11 ⟨some 44, Op.binOp BinOp.geq 9 (Operand.tmp 41) (Operand.tmp 43) 9, _, _, _, some (2, true)⟩ rfl (fun _ _ _ h => h) ?_ hHeld ?_
          rotate_left
          · (intro W _; go_simp <;> (try with_reducible rfl))
          refine take_v (v := ?_) 12 ⟨some 45, Op.pick (Operand.tmp 35) (Operand.tmp 44) (Operand.const (Value.bool false)), _, _, _, none⟩ rfl (fun _ _ _ h => h) ?_ hHeld ?_
          rotate_left
          · (intro W _; go_simp <;> (try with_reducible rfl))
          refine wpAnyH_done (by kernel_rfl) ?_ _
          refine NoPanic.normal ?_
          go_wp2_with fail
          go_meet
          exact ⟨by rw [HK.out], rfl⟩
      case rest =>
        obtain ⟨rfl, hwx⟩ := hcut
        subst hwx
        clear hp hw4
        cases q9
        case true =>
          have HN : Hid (goodL V n = false) := HO9.out rfl
          go_wp2
          go_ret
          exact ⟨ret_bool HN.out.symm, H2.out.2.drew⟩
        have HD : Hid (head1 V i) := ⟨hk, HO0.out rfl⟩
        clear HO HO9 HO0
        have BB : Hid (BigB w2.drew w.heap.size (fun q => seenB V i 0 (q : Int))) := ((HH.out.2.1.next H2.out.1).next (Below.refl _ _).drew).congr (fun x _ => by simp [seenB, hasN])
        go_wp2
        go_loopw [49] (fun x wr => ∃ j : Nat, j ≤ (V i).w.n ∧ x = .int .i64 j ∧ (∀ j', j' < j → seenB V i j' ((V i).w.t j') = false) ∧ BigB wr w.heap.size (fun q => seenB V i j (q : Int)) ∧ Below w.heap.size w wr) (fun x _ => (V i).w.n - (intOf x).toNat)
        case atStart => exact ⟨0, Nat.zero_le _, rfl, fun j hj => absurd hj (by omega), BB.out, H2.out.2.drew⟩
        case round =>
          obtain ⟨j, hj, rfl, hse, hbb, hBr⟩ := hrel
          have hw8 : (V i).w.n ≤ 1048576 := HT.out.2.2.2.2
          by_cases hlj : j < (V i).w.n
          · have hlj' : (j : Int) < ((V i).w.n : Int) := by omega
            have hat := ((HS.out.1.next hBr).2 i hlt).2.1
            rcases hat with h | ⟨b', off', hwa, hbs', hE'⟩
            · omega
            rw [hwa] at *
            obtain ⟨c0, c1⟩ := hd_cells hE' hlj
            obtain ⟨⟨ht1, ht2⟩, _⟩ := hd_range (HW.out.1.2.1 j hlj).1
            obtain ⟨q, hq⟩ : ∃ q : Nat, (V i).w.t j = (q : Int) := ⟨((V i).w.t j).toNat, by omega⟩
            have hq9 : q < 1001 := by omega
            have hq9' : (q : Int) < 1001 := by omega
            have HQ : Hid ((V i).w.t j = (q : Int)) := hq
            rw [hq] at c0
            have e1 : wr.cell? ⟨w.heap.size, q, none⟩ = some (.bool (seenB V i j (q : Int))) := (hbb.1 q hq9).1
            have f1 := (hbb.1 q hq9).2
            have zz := hbb.2
            have hzr : w.heap.size ≤ wr.heap.size := hBr.size
            have HB : Hid (BigB wr w.heap.size (fun q => seenB V i j (q : Int)) ∧ (∀ j', j' < j → seenB V i j' ((V i).w.t j') = false) ∧ Below w.heap.size w wr) := ⟨hbb, hse, hBr⟩
            clear hE' hbb hse hBr hq ht1 ht2
            cases hsn : seenB V i j (q : Int)
            · rw [hsn] at e1
              have e1' : (wr.alloc (.cells #[.int .i64 (q : Int), .int .i64 ((V i).w.m j)] 50)).cell? ⟨w.heap.size, q, none⟩ = some (.bool false) := ((Go.Joins.below_alloc1 _ _).cell (p := ⟨w.heap.size, q, none⟩) zz).trans e1
              go_wp2
              go_roundw
              case rel =>
                refine ⟨j + 1, by omega, by go_num, upto_succ HB.out.2.1 (by rw [HQ.out]; exact hsn), ?_, ?_⟩
                · exact (((HB.out.1.set hq9 true).next (Go.Joins.below_alloc1 _ _)).congr (seen_step HQ.out))
                · exact (HB.out.2.2.setCell (p := ⟨w.heap.size, q, none⟩) (Nat.le_refl _) _).alloc (by rw [World.size_setCell]; exact hzr) _
              case measure => simp [intOf]; omega
            · rw [hsn] at e1
              have HN : Hid (goodL V n = false) := lockI_no hlt (fun g => by have := g.2 j hlj; rw [HQ.out, hsn] at this; cases this)
              go_wp2
              go_ret
              exact ⟨ret_bool HN.out.symm, HB.out.2.2.alloc hzr _⟩
          · have hjn : j = (V i).w.n := by omega
            have HB : Hid (lockI V i ∧ BigB wr w.heap.size (fun q => seenL V (q : Int) (i + 1)) ∧ Below w.heap.size w wr) := by
              refine ⟨⟨⟨HD.out, HW.out.2, HW.out.1⟩, fun j' hj' => hse j' (by omega)⟩, hbb.congr (fun x _ => ?_), hBr⟩
              show seenB V i j (x : Int) = seenL V (x : Int) (i + 1)
              rw [hjn]; rfl
            have hlj' : ¬ (j : Int) < ((V i).w.n : Int) := by omega
            clear hse hbb hBr hjn
            go_wp2
            go_roundw
            case rel => exact ⟨i + 1, by omega, by go_num, upto_succ HH.out.1 HB.out.1, HB.out.2.1, HB.out.2.2⟩
            case measure => simp [intOf]; omega
    · have hkn : i = n := by omega
      subst hkn
      have HN : Hid (goodL V i = true) := good_yes ⟨h20, fun j hj => (lock_same V j).2 (hall j hj)⟩
      have HB : Hid (Below w.heap.size w wo) := hBr
      clear hall hbb hBr
      go_wp2
      go_ret
      exact ⟨ret_bool HN.out.symm, HB.out⟩
end Go.Proofs.Ytnapgnkhajkbkaa
