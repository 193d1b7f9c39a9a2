/- The law's own functions that make the program's data of its own. Written by tools/nest.py. -/
import Derived.Test.YtnglgndocmkbfaaNtS
import Derived.Test.YtnglgndocmkbfaaProg
import Derived.Test.YtnglgndocmkbfaaBx
import Derived.WalkKit
import Derived.WalkSpells
import Derived.WalkLawsBesides
import Derived.Test.YtnglgndocmkbfaaShP
namespace Go.Proofs.Ytnglgndocmkbfaa
open Go.RowKit
set_option linter.unusedVariables false
set_option linter.unusedSimpArgs false

theorem inf_int : (Try.prog.info? 3).map (fun i => (i.zero, i.size, i.bytes)) = some (some (.int .i64 0), 1, 8) := by kernel_rfl
theorem inf_Add : (Try.prog.info? 113).map (fun i => (i.zero, i.size, i.bytes)) = some (some (.agg #[.string ⟨#[]⟩, .int .i64 0, .int .i64 0]), 3, 32) := by kernel_rfl
set_option maxRecDepth 100000 in
set_option maxHeartbeats 4000000 in
theorem toIntS_n (a : Option Addr) (cap : Nat) (x : List (Sh.T .int)) (w : World) (hz : szD (.list .int) x ≤ 1073741824) (h : Lies w (.list .int) [.slice a x.length cap] x) :
    Calls Try.prog 94 #[.slice a x.length cap] w (ToL .int x w) := by
  have HL : Hid (Lies w (.list .int) [.slice a x.length cap] x ∧ szD (.list .int) x ≤ 1073741824) := ⟨h, hz⟩
  have hn : x.length ≤ 1073741824 := by simp only [szD] at hz; omega
  clear h hz
  obtain ⟨n, hnn⟩ : ∃ n, n = x.length := ⟨_, rfl⟩
  have HN : Hid (n = x.length) := hnn
  rw [← hnn] at hn ⊢
  clear hnn
  obtain ⟨i0, hi, hz0, hz1, hz2⟩ := info_parts inf_int
  go_enter Try.func94, Try.ntmps94
  go_wp2_with (at_make; refine wpList_make_full _ rfl (.tmp 6) (.tmp 6) 23 rfl w.heap.size 3 i0 (.int .i64 0) 1 Try.underlying23 hi hz0 hz1 .i64 .i64 _ _ n rfl rfl rfl rfl (by rw [hz2]; omega) (by unfold maxLen; omega) (Nat.le_refl _) ?_; intro w1 hown hgrow)
  have hR := room_made hown
  have hB : Below w.heap.size w w1 := (Below.refl _ _).grown hgrow (Nat.le_refl _) (fun k hk => by cases hk)
  have hG : w.heap.size < w1.heap.size := by
    obtain ⟨_, h | ⟨g', cap', cur, hv, hb, hh, _⟩⟩ := hown
    · exact absurd h.1 (by simp)
    · simp only [Value.slice.injEq, Option.some.injEq, Addr.mk.injEq, and_true, true_and] at hv
      obtain ⟨rfl, rfl⟩ := hv
      rcases Nat.lt_or_ge w.heap.size w1.heap.size with h | h
      · exact h
      · rw [Array.getElem?_eq_none h] at hh; cases hh
  have HI : Hid (OwnK w1 .int w.heap.size n 0 x (Btw w.heap.size w1.heap.size) (fun _ _ => False) ∧ Below w.heap.size w w1) := ⟨⟨hG, ⟨Nat.le_refl _, hG⟩, fun i hi => absurd hi (by omega), fun i j _ hj => absurd hj (by omega), hR, fun i _ hi => absurd hi (by omega)⟩, hB⟩
  clear hown hgrow hi hz0 hz1 hz2 hR hB hG
  go_loopw [4] (fun i wr => ∃ (k : Nat) (B : Nat → Nat → Prop), k ≤ n ∧ i = .int .i64 k ∧ OwnK wr .int w.heap.size n k x (Btw w.heap.size wr.heap.size) B ∧ Below w.heap.size w wr) (fun i _ => n - (intOf i).toNat)
  case atStart => exact ⟨0, _, Nat.zero_le _, rfl, HI.out⟩
  case round =>
    obtain ⟨k, B, hk, rfl, hO, hBr⟩ := hrel
    clear HI
    have HH : Hid (OwnK wr .int w.heap.size n k x (Btw w.heap.size wr.heap.size) B ∧ Below w.heap.size w wr) := ⟨hO, hBr⟩
    clear hO
    by_cases hlt : k < n
    · have hlx : k < x.length := by have := HN.out; omega
      obtain ⟨g, off, hgo, hgs, ec, hel, hec, hle⟩ := Lies.elem (HL.out.1.next hBr) hlx
      subst hgo
      have hlt' : (k : Int) < (n : Int) := by omega
      have HS : Hid (szD .int x[k] ≤ 1073741824) := Hid.intro (by have := sz_mem (List.getElem_mem hlx); have := HL.out.2; omega)
      have hev : ec = [.int .i64 x[k]] := hle
      subst hev
      have c0 : wr.cell? ⟨g, off + k, none⟩ = some (.int .i64 x[k]) := by have := hec 0 (by simp); simpa [Sh.c] using this
      have hrm := HH.out.1.2.2.2.2.1
      obtain ⟨⟨y0, r0⟩, f0⟩ := hrm k (by simp [Sh.c]; omega)
      have z0 := HH.out.1.1
      have hw : put wr w.heap.size (k * Sh.c .int) [.int .i64 x[k]] = wr.setCell ⟨w.heap.size, k, none⟩ (.int .i64 x[k]) := by simp [put, Sh.c]
      have hm := HH.out.1.more (S' := Btw w.heap.size wr.heap.size) (Sk := fun _ => False) (ec := [.int .i64 x[k]]) hlt hlx rfl rfl (fun b hb => hb) (fun b hb => hb.elim)
      rw [hw] at hm
      have HF : Hid (OwnK (wr.setCell ⟨w.heap.size, k, none⟩ (.int .i64 x[k])) .int w.heap.size n (k + 1) x (Btw w.heap.size (wr.setCell ⟨w.heap.size, k, none⟩ (.int .i64 x[k])).heap.size) (fun i => if i = k then (fun _ => False) else B i) ∧ Below w.heap.size w (wr.setCell ⟨w.heap.size, k, none⟩ (.int .i64 x[k]))) := ⟨by simpa using hm, HH.out.2.setCell (p := ⟨w.heap.size, k, none⟩) (Nat.le_refl _) _⟩
      clear hec hle hel hBr HH hrm hm hw
      generalize x[k] = xk at *
      go_wp2
      go_roundw
      case rel => exact ⟨k + 1, _, by omega, by go_num, HF.out⟩
      case measure => simp [intOf]; omega
    · have hkn : k = n := by omega
      subst hkn
      have HP : Hid (ToL .int x w (.returned (.slice (some ⟨w.heap.size, 0, none⟩) k k)) wr) := by
        have e := HN.out
        have h1 := HH.out.1
        refine ⟨w.heap.size, by rw [e], ?_, HH.out.2⟩
        rw [e] at h1
        exact h1.list (Nat.le_refl _) (by unfold maxLen; omega)
      clear HH hBr
      go_wp2
      go_ret
      exact HP.out
set_option maxRecDepth 100000 in
set_option maxHeartbeats 4000000 in
theorem toCounter_n (cs : List Value) (x0 : List (Sh.T .int)) (x1 : List (Sh.T .int)) (w : World) (hz : szD shCounter (x0, x1, ()) ≤ 1073741824) (h : Lies w shCounter cs (x0, x1, ())) :
    Calls Try.prog 41 #[.agg cs.toArray] w (ToP shCounter (x0, x1, ()) w) := by
  obtain ⟨a1, k1, a2, k2, rfl, h1, h2⟩ := lies_Counter h
  have HE : Hid (szD shCounter (x0, x1, ()) = (szD (.list .int) x0 + (szD (.list .int) x1 + 0))) := rfl
  have HZ : Hid (szD shCounter (x0, x1, ()) ≤ 1073741824) := hz
  have HL : Hid (True ∧ Lies w (.list .int) [.slice a1 x0.length k1] x0 ∧ Lies w (.list .int) [.slice a2 x1.length k2] x1) := ⟨trivial, h1, h2⟩
  clear h hz h1 h2
  go_enter Try.func41, Try.ntmps41
  go_wp2_with fail
  obtain ⟨W0, hW⟩ : ∃ x, x = ((w.alloc (.cells #[.slice a1 x0.length k1, .slice a2 x1.length k2] 63)).alloc (.cells #[.slice none 0 0, .slice none 0 0] 25)).alloc (.cells #[.slice none 0 0, .slice none 0 0] 25) := ⟨_, rfl⟩
  have HB0 : Hid (Below w.heap.size w W0 ∧ Bx W0 w.heap.size [.slice a1 x0.length k1, .slice a2 x1.length k2] ∧ Bx W0 (w.heap.size + 1) [.slice none 0 0, .slice none 0 0] ∧ Bx W0 (w.heap.size + 1 + 1) [.slice none 0 0, .slice none 0 0] ∧ W0.heap.size = w.heap.size + 1 + 1 + 1) := hW ▸ ⟨(((Below.refl _ _).alloc (Nat.le_refl _) _).alloc (by simp) _).alloc (by simp; omega) _, ((Bx.new w [.slice a1 x0.length k1, .slice a2 x1.length k2] _).alloc _).alloc _, (Bx.newAt (by simp)).alloc _, Bx.newAt (by simp), by simp⟩
  rw [← hW]
  clear hW
  refine (toIntS_n _ _ x0 W0 (by have := HZ.out; rw [HE.out] at this; omega) (HL.out.2.1.next HB0.out.1)).mono ?_
  rintro r w1 ⟨g1, rfl, ho, hb⟩
  have O1 : Hid (Own w1 (.list .int) [.slice (some ⟨g1, 0, none⟩) x0.length x0.length] x0 (Btw W0.heap.size w1.heap.size)) := ho
  clear ho
  have HC1 : Hid (Below w.heap.size w w1 ∧ Bx w1 w.heap.size [.slice a1 x0.length k1, .slice a2 x1.length k2] ∧ Bx w1 (w.heap.size + 1) [.slice none 0 0, .slice none 0 0] ∧ Bx w1 (w.heap.size + 1 + 1) [.slice none 0 0, .slice none 0 0]) := ⟨HB0.out.1.trans (hb.mono HB0.out.1.size), HB0.out.2.1.next hb, HB0.out.2.2.1.next hb, HB0.out.2.2.2.1.next hb⟩
  have hs1 : W0.heap.size ≤ w1.heap.size := hb.size
  have ht1 := HB0.out.2.2.2.2
  clear hb HB0
  have d0 := HC1.out.2.1.cell 0 rfl
  have d1 := HC1.out.2.1.cell 1 rfl
  have dz := HC1.out.2.1.2
  have e0 := HC1.out.2.2.2.cell 0 rfl
  have f0 := HC1.out.2.2.2.frz 0 (by simp)
  have y0 := HC1.out.2.2.1.cell 0 rfl
  have v0 := HC1.out.2.2.1.frz 0 (by simp)
  have e1 := HC1.out.2.2.2.cell 1 rfl
  have f1 := HC1.out.2.2.2.frz 1 (by simp)
  have y1 := HC1.out.2.2.1.cell 1 rfl
  have v1 := HC1.out.2.2.1.frz 1 (by simp)
  have ez := HC1.out.2.2.2.2
  have yz := HC1.out.2.2.1.2
  go_wp2_with fail
  obtain ⟨W1, hW⟩ : ∃ x, x = (w1.setCell ⟨w.heap.size + 1 + 1, 0, none⟩ (.slice (some ⟨g1, 0, none⟩) x0.length x0.length)) := ⟨_, rfl⟩
  have HB1 : Hid (Below w.heap.size w W1 ∧ Bx W1 w.heap.size [.slice a1 x0.length k1, .slice a2 x1.length k2] ∧ Bx W1 (w.heap.size + 1) [.slice none 0 0, .slice none 0 0] ∧ Bx W1 (w.heap.size + 1 + 1) [.slice (some ⟨g1, 0, none⟩) x0.length x0.length, .slice none 0 0] ∧ W1.heap.size = w1.heap.size) := hW ▸ ⟨(HC1.out.1.setCell (p := ⟨w.heap.size + 1 + 1, 0, none⟩) (by simp; omega) (.slice (some ⟨g1, 0, none⟩) x0.length x0.length)), (HC1.out.2.1.other (by omega)), (HC1.out.2.2.1.other (by omega)), (HC1.out.2.2.2.set (k := 0) (by simp) (.slice (some ⟨g1, 0, none⟩) x0.length x0.length)), by simp⟩
  have O1 : Hid (Own W1 (.list .int) [.slice (some ⟨g1, 0, none⟩) x0.length x0.length] x0 (Btw W0.heap.size w1.heap.size)) := hW ▸ (O1.out.set (p := ⟨w.heap.size + 1 + 1, 0, none⟩) (by simp only [Btw]; omega) (.slice (some ⟨g1, 0, none⟩) x0.length x0.length))
  rw [← hW]
  clear hW HC1 e0 f0 e1 f1 ez d0 d1 dz y0 v0 y1 v1 yz
  refine (toIntS_n _ _ x1 W1 (by have := HZ.out; rw [HE.out] at this; omega) (HL.out.2.2.next HB1.out.1)).mono ?_
  rintro r w2 ⟨g2, rfl, ho, hb⟩
  have O2 : Hid (Own w2 (.list .int) [.slice (some ⟨g2, 0, none⟩) x1.length x1.length] x1 (Btw W1.heap.size w2.heap.size)) := ho
  clear ho
  have O1 : Hid (Own w2 (.list .int) [.slice (some ⟨g1, 0, none⟩) x0.length x0.length] x0 (Btw W0.heap.size w1.heap.size)) := O1.out.next hb
  have HC2 : Hid (Below w.heap.size w w2 ∧ Bx w2 w.heap.size [.slice a1 x0.length k1, .slice a2 x1.length k2] ∧ Bx w2 (w.heap.size + 1) [.slice none 0 0, .slice none 0 0] ∧ Bx w2 (w.heap.size + 1 + 1) [.slice (some ⟨g1, 0, none⟩) x0.length x0.length, .slice none 0 0]) := ⟨HB1.out.1.trans (hb.mono HB1.out.1.size), HB1.out.2.1.next hb, HB1.out.2.2.1.next hb, HB1.out.2.2.2.1.next hb⟩
  have hs2 : W1.heap.size ≤ w2.heap.size := hb.size
  have ht2 := HB1.out.2.2.2.2
  clear hb HB1
  have d0 := HC2.out.2.1.cell 0 rfl
  have d1 := HC2.out.2.1.cell 1 rfl
  have dz := HC2.out.2.1.2
  have e0 := HC2.out.2.2.2.cell 0 rfl
  have f0 := HC2.out.2.2.2.frz 0 (by simp)
  have y0 := HC2.out.2.2.1.cell 0 rfl
  have v0 := HC2.out.2.2.1.frz 0 (by simp)
  have e1 := HC2.out.2.2.2.cell 1 rfl
  have f1 := HC2.out.2.2.2.frz 1 (by simp)
  have y1 := HC2.out.2.2.1.cell 1 rfl
  have v1 := HC2.out.2.2.1.frz 1 (by simp)
  have ez := HC2.out.2.2.2.2
  have yz := HC2.out.2.2.1.2
  go_wp2
  obtain ⟨WE, hW⟩ : ∃ x, x = (((w2.setCell ⟨w.heap.size + 1 + 1, 1, none⟩ (.slice (some ⟨g2, 0, none⟩) x1.length x1.length)).setCell ⟨w.heap.size + 1, 0, none⟩ (.slice (some ⟨g1, 0, none⟩) x0.length x0.length)).setCell ⟨w.heap.size + 1, 1, none⟩ (.slice (some ⟨g2, 0, none⟩) x1.length x1.length)) := ⟨_, rfl⟩
  have HF : Hid (Below w.heap.size w WE ∧ Bx WE (w.heap.size + 1) [.slice (some ⟨g1, 0, none⟩) x0.length x0.length, .slice (some ⟨g2, 0, none⟩) x1.length x1.length] ∧ WE.heap.size = w2.heap.size) := hW ▸ ⟨(((HC2.out.1.setCell (p := ⟨w.heap.size + 1 + 1, 1, none⟩) (by simp; omega) (.slice (some ⟨g2, 0, none⟩) x1.length x1.length)).setCell (p := ⟨w.heap.size + 1, 0, none⟩) (by simp) (.slice (some ⟨g1, 0, none⟩) x0.length x0.length)).setCell (p := ⟨w.heap.size + 1, 1, none⟩) (by simp) (.slice (some ⟨g2, 0, none⟩) x1.length x1.length)), (((HC2.out.2.2.1.other (by omega)).set (k := 0) (by simp) (.slice (some ⟨g1, 0, none⟩) x0.length x0.length)).set (k := 1) (by simp) (.slice (some ⟨g2, 0, none⟩) x1.length x1.length)), by simp⟩
  have O1 : Hid (Own WE (.list .int) [.slice (some ⟨g1, 0, none⟩) x0.length x0.length] x0 (Btw W0.heap.size w1.heap.size)) := hW ▸ (((O1.out.set (p := ⟨w.heap.size + 1 + 1, 1, none⟩) (by simp only [Btw]; omega) (.slice (some ⟨g2, 0, none⟩) x1.length x1.length)).set (p := ⟨w.heap.size + 1, 0, none⟩) (by simp only [Btw]; omega) (.slice (some ⟨g1, 0, none⟩) x0.length x0.length)).set (p := ⟨w.heap.size + 1, 1, none⟩) (by simp only [Btw]; omega) (.slice (some ⟨g2, 0, none⟩) x1.length x1.length))
  have O2 : Hid (Own WE (.list .int) [.slice (some ⟨g2, 0, none⟩) x1.length x1.length] x1 (Btw W1.heap.size w2.heap.size)) := hW ▸ (((O2.out.set (p := ⟨w.heap.size + 1 + 1, 1, none⟩) (by simp only [Btw]; omega) (.slice (some ⟨g2, 0, none⟩) x1.length x1.length)).set (p := ⟨w.heap.size + 1, 0, none⟩) (by simp only [Btw]; omega) (.slice (some ⟨g1, 0, none⟩) x0.length x0.length)).set (p := ⟨w.heap.size + 1, 1, none⟩) (by simp only [Btw]; omega) (.slice (some ⟨g2, 0, none⟩) x1.length x1.length))
  rw [← hW]
  clear hW
  have r0 := HF.out.2.1.cell 0 rfl
  have r1 := HF.out.2.1.cell 1 rfl
  have hzz := HF.out.2.2
  exact bodyPost_ret (v := .agg #[.slice (some ⟨g1, 0, none⟩) x0.length x0.length, .slice (some ⟨g2, 0, none⟩) x1.length x1.length]) (by simp [results, Try.results41, go_sem, r0, r1]) rfl ⟨_, rfl, mkown_Counter O1.out O2.out (fun k hk => by simp only [Btw] at hk ⊢; omega) (fun k hk => by simp only [Btw] at hk ⊢; omega) (fun k e f => by simp only [Btw] at e f; omega), HF.out.1⟩
set_option maxRecDepth 100000 in
set_option maxHeartbeats 4000000 in
theorem toLatest_n (cs : List Value) (x0 : ByteArray) (x1 : Int) (x2 : Int) (w : World) (hz : szD shLatest (x0, x1, x2, ()) ≤ 1073741824) (h : Lies w shLatest cs (x0, x1, x2, ())) :
    Calls Try.prog 48 #[.agg cs.toArray] w (ToP shLatest (x0, x1, x2, ()) w) := by
  obtain rfl := lies_Latest h
  clear h hz
  go_enter Try.func48, Try.ntmps48
  go_wp2
  exact bodyPost_ret (v := .agg #[.string x0, .int .i64 x1, .int .i64 x2]) (by simp [results, Try.results48, go_sem]) rfl ⟨_, rfl, mkown_Latest, (by repeat (first | refine Below.setCell ?_ (by (try simp) <;> omega) _ | refine Below.alloc ?_ (by (try simp) <;> omega) _ | refine Below.drew ?_ | assumption | exact Below.refl _ _ | refine Below.trans ?_ (Below.mono (by assumption) (by (try simp) <;> omega))))⟩
set_option maxRecDepth 100000 in
set_option maxHeartbeats 4000000 in
theorem toAdd_n (cs : List Value) (x0 : ByteArray) (x1 : Int) (x2 : Int) (w : World) (hz : szD shAdd (x0, x1, x2, ()) ≤ 1073741824) (h : Lies w shAdd cs (x0, x1, x2, ())) :
    Calls Try.prog 128 #[.agg cs.toArray] w (ToP shAdd (x0, x1, x2, ()) w) := by
  obtain rfl := lies_Add h
  clear h hz
  go_enter Try.func128, Try.ntmps128
  go_wp2
  exact bodyPost_ret (v := .agg #[.string x0, .int .i64 x1, .int .i64 x2]) (by simp [results, Try.results128, go_sem]) rfl ⟨_, rfl, mkown_Add, (by repeat (first | refine Below.setCell ?_ (by (try simp) <;> omega) _ | refine Below.alloc ?_ (by (try simp) <;> omega) _ | refine Below.drew ?_ | assumption | exact Below.refl _ _ | refine Below.trans ?_ (Below.mono (by assumption) (by (try simp) <;> omega))))⟩
set_option maxRecDepth 100000 in
set_option maxHeartbeats 4000000 in
theorem toAddS_n (a : Option Addr) (cap : Nat) (x : List (Sh.T shAdd)) (w : World) (hz : szD (.list shAdd) x ≤ 1073741824) (h : Lies w (.list shAdd) [.slice a x.length cap] x) :
    Calls Try.prog 102 #[.slice a x.length cap] w (ToL shAdd x w) := by
  have HL : Hid (Lies w (.list shAdd) [.slice a x.length cap] x ∧ szD (.list shAdd) x ≤ 1073741824) := ⟨h, hz⟩
  have hn : x.length ≤ 1073741824 := by simp only [szD] at hz; omega
  clear h hz
  obtain ⟨n, hnn⟩ : ∃ n, n = x.length := ⟨_, rfl⟩
  have HN : Hid (n = x.length) := hnn
  rw [← hnn] at hn ⊢
  clear hnn
  obtain ⟨i0, hi, hz0, hz1, hz2⟩ := info_parts inf_Add
  go_enter Try.func102, Try.ntmps102
  go_wp2_with (at_make; refine wpList_make_full _ rfl (.tmp 6) (.tmp 6) 44 rfl w.heap.size 113 i0 (.agg #[.string ⟨#[]⟩, .int .i64 0, .int .i64 0]) 3 Try.underlying44 hi hz0 hz1 .i64 .i64 _ _ n rfl rfl rfl rfl (by rw [hz2]; omega) (by unfold maxLen; omega) (Nat.le_refl _) ?_; intro w1 hown hgrow)
  have hR := room_made hown
  have hB : Below w.heap.size w w1 := (Below.refl _ _).grown hgrow (Nat.le_refl _) (fun k hk => by cases hk)
  have hG : w.heap.size < w1.heap.size := by
    obtain ⟨_, h | ⟨g', cap', cur, hv, hb, hh, _⟩⟩ := hown
    · exact absurd h.1 (by simp)
    · simp only [Value.slice.injEq, Option.some.injEq, Addr.mk.injEq, and_true, true_and] at hv
      obtain ⟨rfl, rfl⟩ := hv
      rcases Nat.lt_or_ge w.heap.size w1.heap.size with h | h
      · exact h
      · rw [Array.getElem?_eq_none h] at hh; cases hh
  have HI : Hid (OwnK w1 shAdd w.heap.size n 0 x (Btw w.heap.size w1.heap.size) (fun _ _ => False) ∧ Below w.heap.size w w1) := ⟨⟨hG, ⟨Nat.le_refl _, hG⟩, fun i hi => absurd hi (by omega), fun i j _ hj => absurd hj (by omega), hR, fun i _ hi => absurd hi (by omega)⟩, hB⟩
  clear hown hgrow hi hz0 hz1 hz2 hR hB hG
  go_loopw [4] (fun i wr => ∃ (k : Nat) (B : Nat → Nat → Prop), k ≤ n ∧ i = .int .i64 k ∧ OwnK wr shAdd w.heap.size n k x (Btw w.heap.size wr.heap.size) B ∧ Below w.heap.size w wr) (fun i _ => n - (intOf i).toNat)
  case atStart => exact ⟨0, _, Nat.zero_le _, rfl, HI.out⟩
  case round =>
    obtain ⟨k, B, hk, rfl, hO, hBr⟩ := hrel
    clear HI
    have HH : Hid (OwnK wr shAdd w.heap.size n k x (Btw w.heap.size wr.heap.size) B ∧ Below w.heap.size w wr) := ⟨hO, hBr⟩
    clear hO
    by_cases hlt : k < n
    · have hlx : k < x.length := by have := HN.out; omega
      obtain ⟨g, off, hgo, hgs, ec, hel, hec, hle⟩ := Lies.elem (HL.out.1.next hBr) hlx
      subst hgo
      have hlt' : (k : Int) < (n : Int) := by omega
      have HS : Hid (szD shAdd x[k] ≤ 1073741824) := Hid.intro (by have := sz_mem (List.getElem_mem hlx); have := HL.out.2; omega)
      have HCS : Hid (Lies wr shAdd ec x[k]) := hle
      obtain ⟨v0, v1, v2, hev⟩ := list_of3 hel
      subst hev
      have c0 : wr.cell? ⟨g, off + k * 3, none⟩ = some v0 := hec 0 (by simp)
      have c1 : wr.cell? ⟨g, off + k * 3 + 1, none⟩ = some v1 := hec 1 (by simp)
      have c2 : wr.cell? ⟨g, off + k * 3 + 2, none⟩ = some v2 := hec 2 (by simp)
      clear hec hel hBr hle
      go_wp2_with fail
      refine (toAdd_n [v0, v1, v2] x[k].1 x[k].2.1 x[k].2.2.1 _ HS.out HCS.out).mono ?_
      rintro r w2 ⟨cs2, rfl, ho, hb⟩
      obtain hev := own_Add (x0 := x[k].1) (x1 := x[k].2.1) (x2 := x[k].2.2.1) ho
      subst hev
      have h2 := HH.out.1.next hb
      have hm := h2.more (S' := Btw w.heap.size w2.heap.size) (Sk := Btw wr.heap.size w2.heap.size) (ec := [.string x[k].1, .int .i64 x[k].2.1, .int .i64 x[k].2.2.1]) hlt hlx rfl ho (fun b hb2 => ⟨hb2.1, Nat.lt_of_lt_of_le hb2.2 hb.size⟩) (fun b hb2 => ⟨⟨Nat.le_trans HH.out.2.size hb2.1, hb2.2⟩, fun q => Nat.lt_irrefl _ (Nat.lt_of_lt_of_le q.2 hb2.1)⟩)
      have hB2 : Below w.heap.size w w2 := HH.out.2.trans (hb.mono HH.out.2.size)
      have HF : Hid (OwnK (put w2 w.heap.size (k * 3) [.string x[k].1, .int .i64 x[k].2.1, .int .i64 x[k].2.2.1]) shAdd w.heap.size n (k + 1) x (Btw w.heap.size (put w2 w.heap.size (k * 3) [.string x[k].1, .int .i64 x[k].2.1, .int .i64 x[k].2.2.1]).heap.size) (fun i => if i = k then Btw wr.heap.size w2.heap.size else B i) ∧ Below w.heap.size w (put w2 w.heap.size (k * 3) [.string x[k].1, .int .i64 x[k].2.1, .int .i64 x[k].2.2.1])) := ⟨by rw [put_size]; exact hm, put_below (Nat.le_refl _) _ _ _ _ hB2⟩
      have hrm : Room w2 w.heap.size (n * 3) := h2.2.2.2.2.1
      obtain ⟨⟨y0, r0⟩, f0⟩ := hrm (k * 3) (by omega)
      obtain ⟨⟨y1, r1⟩, f1⟩ := hrm (k * 3 + 1) (by omega)
      obtain ⟨⟨y2, r2⟩, f2⟩ := hrm (k * 3 + 2) (by omega)
      have z2 := h2.1
      clear h2 hm hB2 hb ho hrm HH HCS c0 c1 c2
      go_wp2
      go_roundw
      case rel => exact ⟨k + 1, _, by omega, by go_num, HF.out⟩
      case measure => simp [intOf]; omega
    · have hkn : k = n := by omega
      subst hkn
      have HP : Hid (ToL shAdd x w (.returned (.slice (some ⟨w.heap.size, 0, none⟩) k k)) wr) := by
        have e := HN.out
        have h1 := HH.out.1
        refine ⟨w.heap.size, by rw [e], ?_, HH.out.2⟩
        rw [e] at h1
        exact h1.list (Nat.le_refl _) (by unfold maxLen; omega)
      clear HH hBr
      go_wp2
      go_ret
      exact HP.out
set_option maxRecDepth 100000 in
set_option maxHeartbeats 4000000 in
theorem toBag_n (cs : List Value) (x0 : List (Sh.T shAdd)) (x1 : List (Sh.T shAdd)) (w : World) (hz : szD shBag (x0, x1, ()) ≤ 1073741824) (h : Lies w shBag cs (x0, x1, ())) :
    Calls Try.prog 52 #[.agg cs.toArray] w (ToP shBag (x0, x1, ()) w) := by
  obtain ⟨a1, k1, a2, k2, rfl, h1, h2⟩ := lies_Bag h
  have HE : Hid (szD shBag (x0, x1, ()) = (szD (.list shAdd) x0 + (szD (.list shAdd) x1 + 0))) := rfl
  have HZ : Hid (szD shBag (x0, x1, ()) ≤ 1073741824) := hz
  have HL : Hid (True ∧ Lies w (.list shAdd) [.slice a1 x0.length k1] x0 ∧ Lies w (.list shAdd) [.slice a2 x1.length k2] x1) := ⟨trivial, h1, h2⟩
  clear h hz h1 h2
  go_enter Try.func52, Try.ntmps52
  go_wp2_with fail
  obtain ⟨W0, hW⟩ : ∃ x, x = ((w.alloc (.cells #[.slice a1 x0.length k1, .slice a2 x1.length k2] 77)).alloc (.cells #[.slice none 0 0, .slice none 0 0] 46)).alloc (.cells #[.slice none 0 0, .slice none 0 0] 46) := ⟨_, rfl⟩
  have HB0 : Hid (Below w.heap.size w W0 ∧ Bx W0 w.heap.size [.slice a1 x0.length k1, .slice a2 x1.length k2] ∧ Bx W0 (w.heap.size + 1) [.slice none 0 0, .slice none 0 0] ∧ Bx W0 (w.heap.size + 1 + 1) [.slice none 0 0, .slice none 0 0] ∧ W0.heap.size = w.heap.size + 1 + 1 + 1) := hW ▸ ⟨(((Below.refl _ _).alloc (Nat.le_refl _) _).alloc (by simp) _).alloc (by simp; omega) _, ((Bx.new w [.slice a1 x0.length k1, .slice a2 x1.length k2] _).alloc _).alloc _, (Bx.newAt (by simp)).alloc _, Bx.newAt (by simp), by simp⟩
  rw [← hW]
  clear hW
  refine (toAddS_n _ _ x0 W0 (by have := HZ.out; rw [HE.out] at this; omega) (HL.out.2.1.next HB0.out.1)).mono ?_
  rintro r w1 ⟨g1, rfl, ho, hb⟩
  have O1 : Hid (Own w1 (.list shAdd) [.slice (some ⟨g1, 0, none⟩) x0.length x0.length] x0 (Btw W0.heap.size w1.heap.size)) := ho
  clear ho
  have HC1 : Hid (Below w.heap.size w w1 ∧ Bx w1 w.heap.size [.slice a1 x0.length k1, .slice a2 x1.length k2] ∧ Bx w1 (w.heap.size + 1) [.slice none 0 0, .slice none 0 0] ∧ Bx w1 (w.heap.size + 1 + 1) [.slice none 0 0, .slice none 0 0]) := ⟨HB0.out.1.trans (hb.mono HB0.out.1.size), HB0.out.2.1.next hb, HB0.out.2.2.1.next hb, HB0.out.2.2.2.1.next hb⟩
  have hs1 : W0.heap.size ≤ w1.heap.size := hb.size
  have ht1 := HB0.out.2.2.2.2
  clear hb HB0
  have d0 := HC1.out.2.1.cell 0 rfl
  have d1 := HC1.out.2.1.cell 1 rfl
  have dz := HC1.out.2.1.2
  have e0 := HC1.out.2.2.2.cell 0 rfl
  have f0 := HC1.out.2.2.2.frz 0 (by simp)
  have y0 := HC1.out.2.2.1.cell 0 rfl
  have v0 := HC1.out.2.2.1.frz 0 (by simp)
  have e1 := HC1.out.2.2.2.cell 1 rfl
  have f1 := HC1.out.2.2.2.frz 1 (by simp)
  have y1 := HC1.out.2.2.1.cell 1 rfl
  have v1 := HC1.out.2.2.1.frz 1 (by simp)
  have ez := HC1.out.2.2.2.2
  have yz := HC1.out.2.2.1.2
  go_wp2_with fail
  obtain ⟨W1, hW⟩ : ∃ x, x = (w1.setCell ⟨w.heap.size + 1 + 1, 0, none⟩ (.slice (some ⟨g1, 0, none⟩) x0.length x0.length)) := ⟨_, rfl⟩
  have HB1 : Hid (Below w.heap.size w W1 ∧ Bx W1 w.heap.size [.slice a1 x0.length k1, .slice a2 x1.length k2] ∧ Bx W1 (w.heap.size + 1) [.slice none 0 0, .slice none 0 0] ∧ Bx W1 (w.heap.size + 1 + 1) [.slice (some ⟨g1, 0, none⟩) x0.length x0.length, .slice none 0 0] ∧ W1.heap.size = w1.heap.size) := hW ▸ ⟨(HC1.out.1.setCell (p := ⟨w.heap.size + 1 + 1, 0, none⟩) (by simp; omega) (.slice (some ⟨g1, 0, none⟩) x0.length x0.length)), (HC1.out.2.1.other (by omega)), (HC1.out.2.2.1.other (by omega)), (HC1.out.2.2.2.set (k := 0) (by simp) (.slice (some ⟨g1, 0, none⟩) x0.length x0.length)), by simp⟩
  have O1 : Hid (Own W1 (.list shAdd) [.slice (some ⟨g1, 0, none⟩) x0.length x0.length] x0 (Btw W0.heap.size w1.heap.size)) := hW ▸ (O1.out.set (p := ⟨w.heap.size + 1 + 1, 0, none⟩) (by simp only [Btw]; omega) (.slice (some ⟨g1, 0, none⟩) x0.length x0.length))
  rw [← hW]
  clear hW HC1 e0 f0 e1 f1 ez d0 d1 dz y0 v0 y1 v1 yz
  refine (toAddS_n _ _ x1 W1 (by have := HZ.out; rw [HE.out] at this; omega) (HL.out.2.2.next HB1.out.1)).mono ?_
  rintro r w2 ⟨g2, rfl, ho, hb⟩
  have O2 : Hid (Own w2 (.list shAdd) [.slice (some ⟨g2, 0, none⟩) x1.length x1.length] x1 (Btw W1.heap.size w2.heap.size)) := ho
  clear ho
  have O1 : Hid (Own w2 (.list shAdd) [.slice (some ⟨g1, 0, none⟩) x0.length x0.length] x0 (Btw W0.heap.size w1.heap.size)) := O1.out.next hb
  have HC2 : Hid (Below w.heap.size w w2 ∧ Bx w2 w.heap.size [.slice a1 x0.length k1, .slice a2 x1.length k2] ∧ Bx w2 (w.heap.size + 1) [.slice none 0 0, .slice none 0 0] ∧ Bx w2 (w.heap.size + 1 + 1) [.slice (some ⟨g1, 0, none⟩) x0.length x0.length, .slice none 0 0]) := ⟨HB1.out.1.trans (hb.mono HB1.out.1.size), HB1.out.2.1.next hb, HB1.out.2.2.1.next hb, HB1.out.2.2.2.1.next hb⟩
  have hs2 : W1.heap.size ≤ w2.heap.size := hb.size
  have ht2 := HB1.out.2.2.2.2
  clear hb HB1
  have d0 := HC2.out.2.1.cell 0 rfl
  have d1 := HC2.out.2.1.cell 1 rfl
  have dz := HC2.out.2.1.2
  have e0 := HC2.out.2.2.2.cell 0 rfl
  have f0 := HC2.out.2.2.2.frz 0 (by simp)
  have y0 := HC2.out.2.2.1.cell 0 rfl
  have v0 := HC2.out.2.2.1.frz 0 (by simp)
  have e1 := HC2.out.2.2.2.cell 1 rfl
  have f1 := HC2.out.2.2.2.frz 1 (by simp)
  have y1 := HC2.out.2.2.1.cell 1 rfl
  have v1 := HC2.out.2.2.1.frz 1 (by simp)
  have ez := HC2.out.2.2.2.2
  have yz := HC2.out.2.2.1.2
  go_wp2
  obtain ⟨WE, hW⟩ : ∃ x, x = (((w2.setCell ⟨w.heap.size + 1 + 1, 1, none⟩ (.slice (some ⟨g2, 0, none⟩) x1.length x1.length)).setCell ⟨w.heap.size + 1, 0, none⟩ (.slice (some ⟨g1, 0, none⟩) x0.length x0.length)).setCell ⟨w.heap.size + 1, 1, none⟩ (.slice (some ⟨g2, 0, none⟩) x1.length x1.length)) := ⟨_, rfl⟩
  have HF : Hid (Below w.heap.size w WE ∧ Bx WE (w.heap.size + 1) [.slice (some ⟨g1, 0, none⟩) x0.length x0.length, .slice (some ⟨g2, 0, none⟩) x1.length x1.length] ∧ WE.heap.size = w2.heap.size) := hW ▸ ⟨(((HC2.out.1.setCell (p := ⟨w.heap.size + 1 + 1, 1, none⟩) (by simp; omega) (.slice (some ⟨g2, 0, none⟩) x1.length x1.length)).setCell (p := ⟨w.heap.size + 1, 0, none⟩) (by simp) (.slice (some ⟨g1, 0, none⟩) x0.length x0.length)).setCell (p := ⟨w.heap.size + 1, 1, none⟩) (by simp) (.slice (some ⟨g2, 0, none⟩) x1.length x1.length)), (((HC2.out.2.2.1.other (by omega)).set (k := 0) (by simp) (.slice (some ⟨g1, 0, none⟩) x0.length x0.length)).set (k := 1) (by simp) (.slice (some ⟨g2, 0, none⟩) x1.length x1.length)), by simp⟩
  have O1 : Hid (Own WE (.list shAdd) [.slice (some ⟨g1, 0, none⟩) x0.length x0.length] x0 (Btw W0.heap.size w1.heap.size)) := hW ▸ (((O1.out.set (p := ⟨w.heap.size + 1 + 1, 1, none⟩) (by simp only [Btw]; omega) (.slice (some ⟨g2, 0, none⟩) x1.length x1.length)).set (p := ⟨w.heap.size + 1, 0, none⟩) (by simp only [Btw]; omega) (.slice (some ⟨g1, 0, none⟩) x0.length x0.length)).set (p := ⟨w.heap.size + 1, 1, none⟩) (by simp only [Btw]; omega) (.slice (some ⟨g2, 0, none⟩) x1.length x1.length))
  have O2 : Hid (Own WE (.list shAdd) [.slice (some ⟨g2, 0, none⟩) x1.length x1.length] x1 (Btw W1.heap.size w2.heap.size)) := hW ▸ (((O2.out.set (p := ⟨w.heap.size + 1 + 1, 1, none⟩) (by simp only [Btw]; omega) (.slice (some ⟨g2, 0, none⟩) x1.length x1.length)).set (p := ⟨w.heap.size + 1, 0, none⟩) (by simp only [Btw]; omega) (.slice (some ⟨g1, 0, none⟩) x0.length x0.length)).set (p := ⟨w.heap.size + 1, 1, none⟩) (by simp only [Btw]; omega) (.slice (some ⟨g2, 0, none⟩) x1.length x1.length))
  rw [← hW]
  clear hW
  have r0 := HF.out.2.1.cell 0 rfl
  have r1 := HF.out.2.1.cell 1 rfl
  have hzz := HF.out.2.2
  exact bodyPost_ret (v := .agg #[.slice (some ⟨g1, 0, none⟩) x0.length x0.length, .slice (some ⟨g2, 0, none⟩) x1.length x1.length]) (by simp [results, Try.results52, go_sem, r0, r1]) rfl ⟨_, rfl, mkown_Bag O1.out O2.out (fun k hk => by simp only [Btw] at hk ⊢; omega) (fun k hk => by simp only [Btw] at hk ⊢; omega) (fun k e f => by simp only [Btw] at e f; omega), HF.out.1⟩
end Go.Proofs.Ytnglgndocmkbfaa
