/- The contracts of the specification's l6Replay and ReplayLog. -/
import Derived.Test.YtiepfdkfadbllaaL5P
import Derived.Test.YtiepfdkfadbllaaL5F
import Derived.Test.YtiepfdkfadbllaaReG
import Derived.Test.YtiepfdkfadbllaaLgS
namespace Go.Proofs.Ytiepfdkfadbllaa
open Go.RowKit
set_option linter.unusedVariables false

theorem own_lo {w : World} {base lo : Nat} {e : TypeId} {size : Nat} {v : Value} {n : Nat} {xs : List Value} (h : w.ownsRow base e size v n xs) (hl : lo ≤ base) : w.ownsRow lo e size v n xs := by
  obtain ⟨h1, h2⟩ := h
  refine ⟨h1, ?_⟩
  rcases h2 with h2 | ⟨b, cap, cur, hv, hb, r⟩
  · exact Or.inl h2
  · exact Or.inr ⟨b, cap, cur, hv, by omega, r⟩
def RowPost (base : Nat) (L : List RecordV) (w : World) (r : Ending) (w' : World) : Prop :=
  ∃ a' c', r = .returned (.slice a' L.length c') ∧ w'.ownsRow base 59 6 (.slice a' L.length c') L.length (cellsR L) ∧ Below w.heap.size w w'
set_option maxRecDepth 100000 in
set_option maxHeartbeats 8000000 in
theorem l6Replay_any (a : Option Addr) (n cap : Nat) (V : Nat → EntryV) (w : World) (hn : n ≤ 1048575) (hs : Sl w a n 6 (entryF V)) :
    Calls Try.prog 36 #[.slice a n cap] w fun r w' => RowPost (w.heap.size + 1) (recL (latL V n)) w r w' := by
  have HS : Hid (Sl w a n 6 (entryF V)) := hs
  clear hs
  have HX : Hid (Bx (w.alloc (.cells #[.int .i64 0, .slice none 0 0, .slice none 0 0, .slice none 0 0] 91)) w.heap.size [.int .i64 0, .slice none 0 0, .slice none 0 0, .slice none 0 0] ∧ Below w.heap.size w (w.alloc (.cells #[.int .i64 0, .slice none 0 0, .slice none 0 0, .slice none 0 0] 91))) := ⟨Bx.new w [.int .i64 0, .slice none 0 0, .slice none 0 0, .slice none 0 0] _, Go.Joins.below_alloc1 _ _⟩
  go_enter Try.func36, Try.ntmps36
  go_wp2
  go_loopw [11] (fun z wr => ∃ (k : Nat) (v : Value), k ≤ n ∧ z = .int .i64 k ∧ Bx wr w.heap.size [.int .i64 0, v, .slice none 0 0, .slice none 0 0] ∧ wr.ownsRow (w.heap.size + 1) 59 6 v (recL (latL V k)).length (cellsR (recL (latL V k))) ∧ Below w.heap.size w wr) (fun z _ => n - (intOf z).toNat)
  case atStart => exact ⟨0, _, Nat.zero_le _, rfl, HX.out.1, World.ownsRow_nil _ _ _ _, HX.out.2⟩
  case round =>
    obtain ⟨k, v, hk, rfl, hbx, hown, hBr⟩ := hrel
    clear HX
    have hLl := latL_len V k
    have hLr := latL_rise V k
    have hrl := recL_len (latL V k)
    obtain ⟨ra, rc, rfl, hrc, hrow⟩ := SRow.of (F := recordF (vR (recL (latL V k)))) (c := 6) hown
    by_cases hlt : k < n
    · have hlt' : (k : Int) < (n : Int) := by omega
      rcases HS.out.below hBr (Nat.le_refl _) with h | ⟨b, off, rfl, hbs, hE⟩
      · omega
      obtain ⟨c0, c1, c2, c3, c4, c5⟩ := entry_cells hE hlt
      have HLX : Hid (latL V (k + 1) = latE (latL V k) (V k)) := rfl
      obtain ⟨L, hL⟩ : ∃ L, L = latL V k := ⟨_, rfl⟩
      rw [← hL] at hbx hown hLl hLr hrl HLX hrow
      clear hL
      obtain ⟨R, hR⟩ : ∃ R, R = recL L := ⟨_, rfl⟩
      rw [← hR] at hbx hown hrl hrow
      have HR : Hid (R = recL L ∧ riseE L) := ⟨hR, hLr⟩
      have HRL : Hid (R.length = L.length) := hrl
      have hRn : R.length < 1048576 := by omega
      clear hR hLr hrl
      have hd := Go.Joins.below_alloc1 wr (.cells #[.int .i64 (V k).f0, .string (V k).f1, .string (V k).f2, .int .i64 (V k).f3, .int .i64 (V k).f4, .bool (V k).f5] 33)
      have hwr := hbx.2
      have H0 : Hid (Bx (wr.alloc (.cells #[.int .i64 (V k).f0, .string (V k).f1, .string (V k).f2, .int .i64 (V k).f3, .int .i64 (V k).f4, .bool (V k).f5] 33)) w.heap.size [.int .i64 0, .slice ra R.length rc, .slice none 0 0, .slice none 0 0] ∧ (wr.alloc (.cells #[.int .i64 (V k).f0, .string (V k).f1, .string (V k).f2, .int .i64 (V k).f3, .int .i64 (V k).f4, .bool (V k).f5] 33)).ownsRow (w.heap.size + 1) 59 6 (.slice ra R.length rc) R.length (cellsR R) ∧ Below w.heap.size w (wr.alloc (.cells #[.int .i64 (V k).f0, .string (V k).f1, .string (V k).f2, .int .i64 (V k).f3, .int .i64 (V k).f4, .bool (V k).f5] 33)) ∧ Bx (wr.alloc (.cells #[.int .i64 (V k).f0, .string (V k).f1, .string (V k).f2, .int .i64 (V k).f3, .int .i64 (V k).f4, .bool (V k).f5] 33)) wr.heap.size [.int .i64 (V k).f0, .string (V k).f1, .string (V k).f2, .int .i64 (V k).f3, .int .i64 (V k).f4, .bool (V k).f5] ∧ Sl (wr.alloc (.cells #[.int .i64 (V k).f0, .string (V k).f1, .string (V k).f2, .int .i64 (V k).f3, .int .i64 (V k).f4, .bool (V k).f5] 33)) ra R.length 6 (recordF (vR R))) := ⟨hbx.next hd, own_keep hown hd, below_nx hBr hd, Bx.new wr [.int .i64 (V k).f0, .string (V k).f1, .string (V k).f2, .int .i64 (V k).f3, .int .i64 (V k).f4, .bool (V k).f5] _, hrow.sl.below hd (Nat.le_refl _)⟩
      have s0 := (hbx).cell 0 rfl; have s1 := (hbx).cell 1 rfl; have s2 := (hbx).cell 2 rfl; have s3 := (hbx).cell 3 rfl; have sz := (hbx).2
      clear hbx hown hBr hE hrow hd
      go_wp2_with fail
      refine (l5Find_at ra rc R (V k).f1 _ (by omega) H0.out.2.2.2.2).mono ?_
      rintro r w1 ⟨o, f, rfl, hf, hb⟩
      have H1 : Hid (Bx w1 w.heap.size [.int .i64 0, .slice ra R.length rc, .slice none 0 0, .slice none 0 0] ∧ w1.ownsRow (w.heap.size + 1) 59 6 (.slice ra R.length rc) R.length (cellsR R) ∧ Below w.heap.size w w1 ∧ Bx w1 wr.heap.size [.int .i64 (V k).f0, .string (V k).f1, .string (V k).f2, .int .i64 (V k).f3, .int .i64 (V k).f4, .bool (V k).f5] ∧ ((f = true ∧ ∃ q, q < R.length ∧ (vR R q).f0.toList = (V k).f1.toList ∧ o = vR R q) ∨ (f = false ∧ ∀ q, q < R.length → (vR R q).f0.toList ≠ (V k).f1.toList))) := ⟨H0.out.1.next hb, own_keep H0.out.2.1 hb, below_nx H0.out.2.2.1 hb, H0.out.2.2.2.1.next hb, hf⟩
      clear hb hf H0 s0 s1 s2 s3 sz c0 c1 c2 c3 c4 c5
      have hd := Go.Joins.below_alloc1 w1 (.cells #[.string o.f0, .string o.f1, .int .i64 o.f2, .int .i64 o.f3, .bool o.f4, .int .i64 o.f5] 59)
      have H2 : Hid (Bx (w1.alloc (.cells #[.string o.f0, .string o.f1, .int .i64 o.f2, .int .i64 o.f3, .bool o.f4, .int .i64 o.f5] 59)) w.heap.size [.int .i64 0, .slice ra R.length rc, .slice none 0 0, .slice none 0 0] ∧ (w1.alloc (.cells #[.string o.f0, .string o.f1, .int .i64 o.f2, .int .i64 o.f3, .bool o.f4, .int .i64 o.f5] 59)).ownsRow (w.heap.size + 1) 59 6 (.slice ra R.length rc) R.length (cellsR R) ∧ Below w.heap.size w (w1.alloc (.cells #[.string o.f0, .string o.f1, .int .i64 o.f2, .int .i64 o.f3, .bool o.f4, .int .i64 o.f5] 59)) ∧ Bx (w1.alloc (.cells #[.string o.f0, .string o.f1, .int .i64 o.f2, .int .i64 o.f3, .bool o.f4, .int .i64 o.f5] 59)) wr.heap.size [.int .i64 (V k).f0, .string (V k).f1, .string (V k).f2, .int .i64 (V k).f3, .int .i64 (V k).f4, .bool (V k).f5]) := ⟨H1.out.1.next hd, own_keep H1.out.2.1 hd, below_nx H1.out.2.2.1 hd, H1.out.2.2.2.1.next hd⟩
      clear hd
      have HPUT : Hid (∀ W, Bx W w.heap.size [.int .i64 0, .slice ra R.length rc, .slice none 0 0, .slice none 0 0] → W.ownsRow (w.heap.size + 1) 59 6 (.slice ra R.length rc) R.length (cellsR R) → Calls Try.prog 60 #[.agg #[.int .i64 0, .slice ra R.length rc, .slice none 0 0, .slice none 0 0], .agg #[.string (V k).f1, .string (V k).f2, .int .i64 (V k).f3, .int .i64 (V k).f4, .bool (V k).f5, .int .i64 0]] W fun r w' => PutS W.heap.size (putR R (recOf (V k))) W r w') := fun W hW hR => l5Put_new (w.heap.size + 1) W.heap.size _ R (recOf (V k)) W (by omega) (Nat.le_refl _) hR
      cases f
      · have HL2 : Hid (recL (latL V (k + 1)) = putR R (recOf (V k))) := by
          show _ = _
          rw [HLX.out, HR.out.1, recL_put, latE_none]
          intro q hq e
          rcases H1.out.2.2.2.2 with ⟨h, _⟩ | ⟨_, h⟩
          · cases h
          · refine h q (by rw [HRL.out]; exact hq) ?_
            rw [HR.out.1, recL_at hq]; exact e
        have s0 := (H2.out.1).cell 0 rfl; have s1 := (H2.out.1).cell 1 rfl; have s2 := (H2.out.1).cell 2 rfl; have s3 := (H2.out.1).cell 3 rfl; have sz := (H2.out.1).2
        have e0 := (H2.out.2.2.2).cell 0 rfl; have e1 := (H2.out.2.2.2).cell 1 rfl; have e2 := (H2.out.2.2.2).cell 2 rfl; have e3 := (H2.out.2.2.2).cell 3 rfl; have e4 := (H2.out.2.2.2).cell 4 rfl; have e5 := (H2.out.2.2.2).cell 5 rfl; have ez := (H2.out.2.2.2).2
        go_wp2_with fail
        refine (HPUT.out _ H2.out.1 H2.out.2.1).mono ?_
        rintro r w5 ⟨a5, c5, rfl, ho5, hb5⟩
        have hb5 := hb5 _ _ (Below.refl _ _) (Nat.le_refl _) (Nat.le_refl _)
        have H5 : Hid (Bx w5 w.heap.size [.int .i64 0, .slice ra R.length rc, .slice none 0 0, .slice none 0 0] ∧ Below w.heap.size w w5 ∧ w5.ownsRow (w.heap.size + 1) 59 6 (.slice a5 (putR R (recOf (V k))).length c5) (putR R (recOf (V k))).length (cellsR (putR R (recOf (V k))))) := ⟨H2.out.1.next hb5, below_nx H2.out.2.2.1 hb5, own_lo ho5 (Nat.succ_le_of_lt H2.out.1.2)⟩
        clear ho5 hb5 s0 s1 s2 s3 sz e0 e1 e2 e3 e4 e5 ez H2 HPUT
        obtain ⟨R2, hR2⟩ : ∃ R2, R2 = putR R (recOf (V k)) := ⟨_, rfl⟩
        rw [← hR2] at H5 HL2 ⊢
        clear hR2
        have HW : Hid (Bx ((((w5.setCell ⟨w.heap.size, 0, none⟩ (.int .i64 0)).setCell ⟨w.heap.size, 1, none⟩ (.slice a5 R2.length c5)).setCell ⟨w.heap.size, 2, none⟩ (.slice none 0 0)).setCell ⟨w.heap.size, 3, none⟩ (.slice none 0 0)) w.heap.size [.int .i64 0, .slice a5 R2.length c5, .slice none 0 0, .slice none 0 0] ∧ ((((w5.setCell ⟨w.heap.size, 0, none⟩ (.int .i64 0)).setCell ⟨w.heap.size, 1, none⟩ (.slice a5 R2.length c5)).setCell ⟨w.heap.size, 2, none⟩ (.slice none 0 0)).setCell ⟨w.heap.size, 3, none⟩ (.slice none 0 0)).ownsRow (w.heap.size + 1) 59 6 (.slice a5 R2.length c5) R2.length (cellsR R2) ∧ Below w.heap.size w ((((w5.setCell ⟨w.heap.size, 0, none⟩ (.int .i64 0)).setCell ⟨w.heap.size, 1, none⟩ (.slice a5 R2.length c5)).setCell ⟨w.heap.size, 2, none⟩ (.slice none 0 0)).setCell ⟨w.heap.size, 3, none⟩ (.slice none 0 0))) := by
          refine ⟨(((H5.out.1.set (k := 0) (by simp) (.int .i64 0)).set (k := 1) (by simp) (.slice a5 R2.length c5)).set (k := 2) (by simp) (.slice none 0 0)).set (k := 3) (by simp) (.slice none 0 0), own_blkR H5.out.2.2 (fun j hj => ?_), ?_⟩
          · have hj1 := (H5.out.2.2.lt j hj).1
            rw [Below.heap_setCell _ _ _ _ (show j ≠ w.heap.size by omega), Below.heap_setCell _ _ _ _ (show j ≠ w.heap.size by omega), Below.heap_setCell _ _ _ _ (show j ≠ w.heap.size by omega), Below.heap_setCell _ _ _ _ (show j ≠ w.heap.size by omega)]
          · repeat (refine Below.setCell ?_ (by dsimp only; omega) _)
            exact H5.out.2.1
        have s0 := (H5.out.1).cell 0 rfl; have s1 := (H5.out.1).cell 1 rfl; have s2 := (H5.out.1).cell 2 rfl; have s3 := (H5.out.1).cell 3 rfl; have sz := (H5.out.1).2
        have f0 := H5.out.1.frz 0 (by simp)
        have f1 := H5.out.1.frz 1 (by simp)
        have f2 := H5.out.1.frz 2 (by simp)
        have f3 := H5.out.1.frz 3 (by simp)
        clear H5
        go_wp2
        go_roundw
        case rel => exact ⟨k + 1, _, by omega, by go_num, HW.out.1, by rw [HL2.out]; exact HW.out.2.1, HW.out.2.2⟩
        case measure => simp [intOf]; omega
      · have HQ : Hid (∃ q, q < L.length ∧ (vE L q).f1.toList = (V k).f1.toList ∧ o = recOf (vE L q)) := by
          rcases H1.out.2.2.2.2 with ⟨_, q, h1, h2, h3⟩ | ⟨h, _⟩
          · have hq : q < L.length := by rw [HRL.out] at h1; exact h1
            rw [HR.out.1, recL_at hq] at h2 h3
            exact ⟨q, hq, h2, h3⟩
          · cases h
        clear H1
        have hbo := Bx.new w1 [.string o.f0, .string o.f1, .int .i64 o.f2, .int .i64 o.f3, .bool o.f4, .int .i64 o.f5] 59
        have o0 := (hbo).cell 0 rfl; have o1 := (hbo).cell 1 rfl; have o2 := (hbo).cell 2 rfl; have o3 := (hbo).cell 3 rfl; have o4 := (hbo).cell 4 rfl; have o5 := (hbo).cell 5 rfl; have oz := (hbo).2
        have e0 := (H2.out.2.2.2).cell 0 rfl; have e1 := (H2.out.2.2.2).cell 1 rfl; have e2 := (H2.out.2.2.2).cell 2 rfl; have e3 := (H2.out.2.2.2).cell 3 rfl; have e4 := (H2.out.2.2.2).cell 4 rfl; have e5 := (H2.out.2.2.2).cell 5 rfl; have ez := (H2.out.2.2.2).2
        clear hbo
        go_wp2_with fail
        refine (l1Compare_any _ _ _ _ _ _ _).mono ?_
        rintro r w3 ⟨rfl, hb⟩
        have H3 : Hid (Bx w3 w.heap.size [.int .i64 0, .slice ra R.length rc, .slice none 0 0, .slice none 0 0] ∧ w3.ownsRow (w.heap.size + 1) 59 6 (.slice ra R.length rc) R.length (cellsR R) ∧ Below w.heap.size w w3 ∧ Bx w3 wr.heap.size [.int .i64 (V k).f0, .string (V k).f1, .string (V k).f2, .int .i64 (V k).f3, .int .i64 (V k).f4, .bool (V k).f5]) := ⟨H2.out.1.next hb, own_keep H2.out.2.1 hb, below_nx H2.out.2.2.1 hb, H2.out.2.2.2.next hb⟩
        clear hb H2 o0 o1 o2 o3 o4 o5 oz e0 e1 e2 e3 e4 e5 ez
        obtain ⟨c, hc⟩ : ∃ c, c = cmpT o.f2 o.f3 (V k).f3 (V k).f4 := ⟨_, rfl⟩
        rw [← hc]
        have HC : Hid (c = cmpT o.f2 o.f3 (V k).f3 (V k).f4) := hc
        clear hc
        by_cases hcl : c < 0
        · have HL2 : Hid (recL (latL V (k + 1)) = putR R (recOf (V k))) := by
            show _ = _
            obtain ⟨q, hq, he, ho⟩ := HQ.out
            rw [HLX.out, HR.out.1, recL_put, lat_less HR.out.2 hq he (by have := HC.out; rw [ho] at this; rw [this] at hcl; exact hcl)]
          have s0 := (H3.out.1).cell 0 rfl; have s1 := (H3.out.1).cell 1 rfl; have s2 := (H3.out.1).cell 2 rfl; have s3 := (H3.out.1).cell 3 rfl; have sz := (H3.out.1).2
          have e0 := (H3.out.2.2.2).cell 0 rfl; have e1 := (H3.out.2.2.2).cell 1 rfl; have e2 := (H3.out.2.2.2).cell 2 rfl; have e3 := (H3.out.2.2.2).cell 3 rfl; have e4 := (H3.out.2.2.2).cell 4 rfl; have e5 := (H3.out.2.2.2).cell 5 rfl; have ez := (H3.out.2.2.2).2
          go_wp2_with fail
          refine (HPUT.out _ H3.out.1 H3.out.2.1).mono ?_
          rintro r w5 ⟨a5, c5, rfl, ho5, hb5⟩
          have hb5 := hb5 _ _ (Below.refl _ _) (Nat.le_refl _) (Nat.le_refl _)
          have H5 : Hid (Bx w5 w.heap.size [.int .i64 0, .slice ra R.length rc, .slice none 0 0, .slice none 0 0] ∧ Below w.heap.size w w5 ∧ w5.ownsRow (w.heap.size + 1) 59 6 (.slice a5 (putR R (recOf (V k))).length c5) (putR R (recOf (V k))).length (cellsR (putR R (recOf (V k))))) := ⟨H3.out.1.next hb5, below_nx H3.out.2.2.1 hb5, own_lo ho5 (Nat.succ_le_of_lt H3.out.1.2)⟩
          clear ho5 hb5 s0 s1 s2 s3 sz e0 e1 e2 e3 e4 e5 ez H3 HPUT
          obtain ⟨R2, hR2⟩ : ∃ R2, R2 = putR R (recOf (V k)) := ⟨_, rfl⟩
          rw [← hR2] at H5 HL2 ⊢
          clear hR2
          have HW : Hid (Bx ((((w5.setCell ⟨w.heap.size, 0, none⟩ (.int .i64 0)).setCell ⟨w.heap.size, 1, none⟩ (.slice a5 R2.length c5)).setCell ⟨w.heap.size, 2, none⟩ (.slice none 0 0)).setCell ⟨w.heap.size, 3, none⟩ (.slice none 0 0)) w.heap.size [.int .i64 0, .slice a5 R2.length c5, .slice none 0 0, .slice none 0 0] ∧ ((((w5.setCell ⟨w.heap.size, 0, none⟩ (.int .i64 0)).setCell ⟨w.heap.size, 1, none⟩ (.slice a5 R2.length c5)).setCell ⟨w.heap.size, 2, none⟩ (.slice none 0 0)).setCell ⟨w.heap.size, 3, none⟩ (.slice none 0 0)).ownsRow (w.heap.size + 1) 59 6 (.slice a5 R2.length c5) R2.length (cellsR R2) ∧ Below w.heap.size w ((((w5.setCell ⟨w.heap.size, 0, none⟩ (.int .i64 0)).setCell ⟨w.heap.size, 1, none⟩ (.slice a5 R2.length c5)).setCell ⟨w.heap.size, 2, none⟩ (.slice none 0 0)).setCell ⟨w.heap.size, 3, none⟩ (.slice none 0 0))) := by
            refine ⟨(((H5.out.1.set (k := 0) (by simp) (.int .i64 0)).set (k := 1) (by simp) (.slice a5 R2.length c5)).set (k := 2) (by simp) (.slice none 0 0)).set (k := 3) (by simp) (.slice none 0 0), own_blkR H5.out.2.2 (fun j hj => ?_), ?_⟩
            · have hj1 := (H5.out.2.2.lt j hj).1
              rw [Below.heap_setCell _ _ _ _ (show j ≠ w.heap.size by omega), Below.heap_setCell _ _ _ _ (show j ≠ w.heap.size by omega), Below.heap_setCell _ _ _ _ (show j ≠ w.heap.size by omega), Below.heap_setCell _ _ _ _ (show j ≠ w.heap.size by omega)]
            · repeat (refine Below.setCell ?_ (by dsimp only; omega) _)
              exact H5.out.2.1
          have s0 := (H5.out.1).cell 0 rfl; have s1 := (H5.out.1).cell 1 rfl; have s2 := (H5.out.1).cell 2 rfl; have s3 := (H5.out.1).cell 3 rfl; have sz := (H5.out.1).2
          have f0 := H5.out.1.frz 0 (by simp)
          have f1 := H5.out.1.frz 1 (by simp)
          have f2 := H5.out.1.frz 2 (by simp)
          have f3 := H5.out.1.frz 3 (by simp)
          clear H5
          go_wp2
          go_roundw
          case rel => exact ⟨k + 1, _, by omega, by go_num, HW.out.1, by rw [HL2.out]; exact HW.out.2.1, HW.out.2.2⟩
          case measure => simp [intOf]; omega
        · have HL2 : Hid (recL (latL V (k + 1)) = R) := by
            show _ = _
            obtain ⟨q, hq, he, ho⟩ := HQ.out
            rw [HLX.out, HR.out.1, lat_keep HR.out.2 hq he (by have := HC.out; rw [ho] at this; rw [this] at hcl; exact hcl)]
          go_wp2
          go_roundw
          case rel => exact ⟨k + 1, _, by omega, by go_num, H3.out.1, by rw [HL2.out]; exact H3.out.2.1, H3.out.2.2.1⟩
          case measure => simp [intOf]; omega
    · have hkn : k = n := by omega
      have hlt' : ¬ (k : Int) < (n : Int) := by omega
      obtain ⟨R, hR⟩ : ∃ R, R = recL (latL V k) := ⟨_, rfl⟩
      rw [← hR] at hbx hown
      have HZ : Hid (RowPost (w.heap.size + 1) (recL (latL V n)) w (.returned (.slice ra R.length rc)) wr) := by rw [← hkn, ← hR]; exact ⟨ra, rc, rfl, hown, hBr⟩
      clear hrl hR
      have s1 := hbx.cell 1 rfl
      have sz := hbx.2
      clear hbx hown hBr hrow hkn
      go_wp2
      go_ret
      exact HZ.out
end Go.Proofs.Ytiepfdkfadbllaa
