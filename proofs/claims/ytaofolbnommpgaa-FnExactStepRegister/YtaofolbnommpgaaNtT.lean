/- The law's own functions that make the program's data of its own. Written by tools/nest.py. -/
import Derived.Test.YtaofolbnommpgaaMgA
import Derived.Test.YtaofolbnommpgaaProg
import Derived.WalkKit
import Derived.WalkSpells
import Derived.WalkLawsBesides
namespace Go.Proofs.Ytaofolbnommpgaa
open Go.RowKit
set_option linter.unusedVariables false
set_option linter.unusedSimpArgs false

theorem inf_Copy : (Try.prog.info? 48).map (fun i => (i.zero, i.size, i.bytes)) = some (some (.agg #[.int .i64 0, .int .i64 0, .string ⟨#[]⟩]), 3, 32) := by kernel_rfl
theorem inf_int : (Try.prog.info? 3).map (fun i => (i.zero, i.size, i.bytes)) = some (some (.int .i64 0), 1, 8) := by kernel_rfl
theorem inf_RegOp : (Try.prog.info? 53).map (fun i => (i.zero, i.size, i.bytes)) = some (some (.agg #[.int .i64 0, .bool false, .string ⟨#[]⟩, .int .i64 0, .slice none 0 0, .int .i64 0, .int .i64 0, .string ⟨#[]⟩, .int .i64 0, .int .i64 0]), 10, 112) := by kernel_rfl
set_option maxRecDepth 100000 in
set_option maxHeartbeats 4000000 in
theorem toCopy_n (cs : List Value) (x0 : Int) (x1 : Int) (x2 : ByteArray) (w : World) (hz : szD shCopy (x0, x1, x2, ()) ≤ 1073741824) (h : Lies w shCopy cs (x0, x1, x2, ())) :
    Calls Try.prog 110 #[.agg cs.toArray] w (ToP shCopy (x0, x1, x2, ()) w) := by
  obtain rfl := lies_Copy h
  clear h hz
  go_enter Try.func110, Try.ntmps110
  go_wp2
  exact bodyPost_ret (v := .agg #[.int .i64 x0, .int .i64 x1, .string x2]) (by simp [results, Try.results110, go_sem]) rfl ⟨_, rfl, mkown_Copy, (by repeat (first | refine Below.setCell ?_ (by (try simp) <;> omega) _ | refine Below.alloc ?_ (by (try simp) <;> omega) _ | refine Below.drew ?_ | assumption | exact Below.refl _ _ | refine Below.trans ?_ (Below.mono (by assumption) (by (try simp) <;> omega))))⟩
set_option maxRecDepth 100000 in
set_option maxHeartbeats 4000000 in
theorem toCopyS_n (a : Option Addr) (cap : Nat) (x : List (Sh.T shCopy)) (w : World) (hz : szD (.list shCopy) x ≤ 1073741824) (h : Lies w (.list shCopy) [.slice a x.length cap] x) :
    Calls Try.prog 81 #[.slice a x.length cap] w (ToL shCopy x w) := by
  have HL : Hid (Lies w (.list shCopy) [.slice a x.length cap] x ∧ szD (.list shCopy) x ≤ 1073741824) := ⟨h, hz⟩
  have hn : x.length ≤ 1073741824 := by simp only [szD] at hz; omega
  clear h hz
  obtain ⟨n, hnn⟩ : ∃ n, n = x.length := ⟨_, rfl⟩
  have HN : Hid (n = x.length) := hnn
  rw [← hnn] at hn ⊢
  clear hnn
  obtain ⟨i0, hi, hz0, hz1, hz2⟩ := info_parts inf_Copy
  go_enter Try.func81, Try.ntmps81
  go_wp2_with (at_make; refine wpList_make_full _ rfl (.tmp 6) (.tmp 6) 26 rfl w.heap.size 48 i0 (.agg #[.int .i64 0, .int .i64 0, .string ⟨#[]⟩]) 3 Try.underlying26 hi hz0 hz1 .i64 .i64 _ _ n rfl rfl rfl rfl (by rw [hz2]; omega) (by unfold maxLen; omega) (Nat.le_refl _) ?_; intro w1 hown hgrow)
  have hR := room_made hown
  have hB : Below w.heap.size w w1 := (Below.refl _ _).grown hgrow (Nat.le_refl _) (fun k hk => by cases hk)
  have hG : w.heap.size < w1.heap.size := by
    obtain ⟨_, h | ⟨g', cap', cur, hv, hb, hh, _⟩⟩ := hown
    · exact absurd h.1 (by simp)
    · simp only [Value.slice.injEq, Option.some.injEq, Addr.mk.injEq, and_true, true_and] at hv
      obtain ⟨rfl, rfl⟩ := hv
      rcases Nat.lt_or_ge w.heap.size w1.heap.size with h | h
      · exact h
      · rw [Array.getElem?_eq_none h] at hh; cases hh
  have HI : Hid (OwnK w1 shCopy w.heap.size n 0 x (Btw w.heap.size w1.heap.size) (fun _ _ => False) ∧ Below w.heap.size w w1) := ⟨⟨hG, ⟨Nat.le_refl _, hG⟩, fun i hi => absurd hi (by omega), fun i j _ hj => absurd hj (by omega), hR, fun i _ hi => absurd hi (by omega)⟩, hB⟩
  clear hown hgrow hi hz0 hz1 hz2 hR hB hG
  go_loopw [4] (fun i wr => ∃ (k : Nat) (B : Nat → Nat → Prop), k ≤ n ∧ i = .int .i64 k ∧ OwnK wr shCopy w.heap.size n k x (Btw w.heap.size wr.heap.size) B ∧ Below w.heap.size w wr) (fun i _ => n - (intOf i).toNat)
  case atStart => exact ⟨0, _, Nat.zero_le _, rfl, HI.out⟩
  case round =>
    obtain ⟨k, B, hk, rfl, hO, hBr⟩ := hrel
    clear HI
    have HH : Hid (OwnK wr shCopy w.heap.size n k x (Btw w.heap.size wr.heap.size) B ∧ Below w.heap.size w wr) := ⟨hO, hBr⟩
    clear hO
    by_cases hlt : k < n
    · have hlx : k < x.length := by have := HN.out; omega
      obtain ⟨g, off, hgo, hgs, ec, hel, hec, hle⟩ := Lies.elem (HL.out.1.next hBr) hlx
      subst hgo
      have hlt' : (k : Int) < (n : Int) := by omega
      have HS : Hid (szD shCopy x[k] ≤ 1073741824) := Hid.intro (by have := sz_mem (List.getElem_mem hlx); have := HL.out.2; omega)
      have HCS : Hid (Lies wr shCopy ec x[k]) := hle
      obtain ⟨v0, v1, v2, hev⟩ := list_of3 hel
      subst hev
      have c0 : wr.cell? ⟨g, off + k * 3, none⟩ = some v0 := hec 0 (by simp)
      have c1 : wr.cell? ⟨g, off + k * 3 + 1, none⟩ = some v1 := hec 1 (by simp)
      have c2 : wr.cell? ⟨g, off + k * 3 + 2, none⟩ = some v2 := hec 2 (by simp)
      clear hec hel hBr hle
      go_wp2_with fail
      refine (toCopy_n [v0, v1, v2] x[k].1 x[k].2.1 x[k].2.2.1 _ HS.out HCS.out).mono ?_
      rintro r w2 ⟨cs2, rfl, ho, hb⟩
      obtain hev := own_Copy (x0 := x[k].1) (x1 := x[k].2.1) (x2 := x[k].2.2.1) ho
      subst hev
      have h2 := HH.out.1.next hb
      have hm := h2.more (S' := Btw w.heap.size w2.heap.size) (Sk := Btw wr.heap.size w2.heap.size) (ec := [.int .i64 x[k].1, .int .i64 x[k].2.1, .string x[k].2.2.1]) hlt hlx rfl ho (fun b hb2 => ⟨hb2.1, Nat.lt_of_lt_of_le hb2.2 hb.size⟩) (fun b hb2 => ⟨⟨Nat.le_trans HH.out.2.size hb2.1, hb2.2⟩, fun q => Nat.lt_irrefl _ (Nat.lt_of_lt_of_le q.2 hb2.1)⟩)
      have hB2 : Below w.heap.size w w2 := HH.out.2.trans (hb.mono HH.out.2.size)
      have HF : Hid (OwnK (put w2 w.heap.size (k * 3) [.int .i64 x[k].1, .int .i64 x[k].2.1, .string x[k].2.2.1]) shCopy w.heap.size n (k + 1) x (Btw w.heap.size (put w2 w.heap.size (k * 3) [.int .i64 x[k].1, .int .i64 x[k].2.1, .string x[k].2.2.1]).heap.size) (fun i => if i = k then Btw wr.heap.size w2.heap.size else B i) ∧ Below w.heap.size w (put w2 w.heap.size (k * 3) [.int .i64 x[k].1, .int .i64 x[k].2.1, .string x[k].2.2.1])) := ⟨by rw [put_size]; exact hm, put_below (Nat.le_refl _) _ _ _ _ hB2⟩
      have hrm : Room w2 w.heap.size (n * 3) := h2.2.2.2.2.1
      obtain ⟨⟨y0, r0⟩, f0⟩ := hrm (k * 3) (by omega)
      obtain ⟨⟨y1, r1⟩, f1⟩ := hrm (k * 3 + 1) (by omega)
      obtain ⟨⟨y2, r2⟩, f2⟩ := hrm (k * 3 + 2) (by omega)
      have z2 := h2.1
      clear h2 hm hB2 hb ho hrm HH HCS c0 c1 c2
      go_wp2
      go_roundw
      case rel => exact ⟨k + 1, _, by omega, by go_num, HF.out⟩
      case measure => simp [intOf]; omega
    · have hkn : k = n := by omega
      subst hkn
      have HP : Hid (ToL shCopy x w (.returned (.slice (some ⟨w.heap.size, 0, none⟩) k k)) wr) := by
        have e := HN.out
        have h1 := HH.out.1
        refine ⟨w.heap.size, by rw [e], ?_, HH.out.2⟩
        rw [e] at h1
        exact h1.list (Nat.le_refl _) (by unfold maxLen; omega)
      clear HH hBr
      go_wp2
      go_ret
      exact HP.out
set_option maxRecDepth 100000 in
set_option maxHeartbeats 4000000 in
theorem toIntS_n (a : Option Addr) (cap : Nat) (x : List (Sh.T .int)) (w : World) (hz : szD (.list .int) x ≤ 1073741824) (h : Lies w (.list .int) [.slice a x.length cap] x) :
    Calls Try.prog 126 #[.slice a x.length cap] w (ToL .int x w) := by
  have HL : Hid (Lies w (.list .int) [.slice a x.length cap] x ∧ szD (.list .int) x ≤ 1073741824) := ⟨h, hz⟩
  have hn : x.length ≤ 1073741824 := by simp only [szD] at hz; omega
  clear h hz
  obtain ⟨n, hnn⟩ : ∃ n, n = x.length := ⟨_, rfl⟩
  have HN : Hid (n = x.length) := hnn
  rw [← hnn] at hn ⊢
  clear hnn
  obtain ⟨i0, hi, hz0, hz1, hz2⟩ := info_parts inf_int
  go_enter Try.func126, Try.ntmps126
  go_wp2_with (at_make; refine wpList_make_full _ rfl (.tmp 6) (.tmp 6) 51 rfl w.heap.size 3 i0 (.int .i64 0) 1 Try.underlying51 hi hz0 hz1 .i64 .i64 _ _ n rfl rfl rfl rfl (by rw [hz2]; omega) (by unfold maxLen; omega) (Nat.le_refl _) ?_; intro w1 hown hgrow)
  have hR := room_made hown
  have hB : Below w.heap.size w w1 := (Below.refl _ _).grown hgrow (Nat.le_refl _) (fun k hk => by cases hk)
  have hG : w.heap.size < w1.heap.size := by
    obtain ⟨_, h | ⟨g', cap', cur, hv, hb, hh, _⟩⟩ := hown
    · exact absurd h.1 (by simp)
    · simp only [Value.slice.injEq, Option.some.injEq, Addr.mk.injEq, and_true, true_and] at hv
      obtain ⟨rfl, rfl⟩ := hv
      rcases Nat.lt_or_ge w.heap.size w1.heap.size with h | h
      · exact h
      · rw [Array.getElem?_eq_none h] at hh; cases hh
  have HI : Hid (OwnK w1 .int w.heap.size n 0 x (Btw w.heap.size w1.heap.size) (fun _ _ => False) ∧ Below w.heap.size w w1) := ⟨⟨hG, ⟨Nat.le_refl _, hG⟩, fun i hi => absurd hi (by omega), fun i j _ hj => absurd hj (by omega), hR, fun i _ hi => absurd hi (by omega)⟩, hB⟩
  clear hown hgrow hi hz0 hz1 hz2 hR hB hG
  go_loopw [4] (fun i wr => ∃ (k : Nat) (B : Nat → Nat → Prop), k ≤ n ∧ i = .int .i64 k ∧ OwnK wr .int w.heap.size n k x (Btw w.heap.size wr.heap.size) B ∧ Below w.heap.size w wr) (fun i _ => n - (intOf i).toNat)
  case atStart => exact ⟨0, _, Nat.zero_le _, rfl, HI.out⟩
  case round =>
    obtain ⟨k, B, hk, rfl, hO, hBr⟩ := hrel
    clear HI
    have HH : Hid (OwnK wr .int w.heap.size n k x (Btw w.heap.size wr.heap.size) B ∧ Below w.heap.size w wr) := ⟨hO, hBr⟩
    clear hO
    by_cases hlt : k < n
    · have hlx : k < x.length := by have := HN.out; omega
      obtain ⟨g, off, hgo, hgs, ec, hel, hec, hle⟩ := Lies.elem (HL.out.1.next hBr) hlx
      subst hgo
      have hlt' : (k : Int) < (n : Int) := by omega
      have HS : Hid (szD .int x[k] ≤ 1073741824) := Hid.intro (by have := sz_mem (List.getElem_mem hlx); have := HL.out.2; omega)
      have hev : ec = [.int .i64 x[k]] := hle
      subst hev
      have c0 : wr.cell? ⟨g, off + k, none⟩ = some (.int .i64 x[k]) := by have := hec 0 (by simp); simpa [Sh.c] using this
      have hrm := HH.out.1.2.2.2.2.1
      obtain ⟨⟨y0, r0⟩, f0⟩ := hrm k (by simp [Sh.c]; omega)
      have z0 := HH.out.1.1
      have hw : put wr w.heap.size (k * Sh.c .int) [.int .i64 x[k]] = wr.setCell ⟨w.heap.size, k, none⟩ (.int .i64 x[k]) := by simp [put, Sh.c]
      have hm := HH.out.1.more (S' := Btw w.heap.size wr.heap.size) (Sk := fun _ => False) (ec := [.int .i64 x[k]]) hlt hlx rfl rfl (fun b hb => hb) (fun b hb => hb.elim)
      rw [hw] at hm
      have HF : Hid (OwnK (wr.setCell ⟨w.heap.size, k, none⟩ (.int .i64 x[k])) .int w.heap.size n (k + 1) x (Btw w.heap.size (wr.setCell ⟨w.heap.size, k, none⟩ (.int .i64 x[k])).heap.size) (fun i => if i = k then (fun _ => False) else B i) ∧ Below w.heap.size w (wr.setCell ⟨w.heap.size, k, none⟩ (.int .i64 x[k]))) := ⟨by simpa using hm, HH.out.2.setCell (p := ⟨w.heap.size, k, none⟩) (Nat.le_refl _) _⟩
      clear hec hle hel hBr HH hrm hm hw
      generalize x[k] = xk at *
      go_wp2
      go_roundw
      case rel => exact ⟨k + 1, _, by omega, by go_num, HF.out⟩
      case measure => simp [intOf]; omega
    · have hkn : k = n := by omega
      subst hkn
      have HP : Hid (ToL .int x w (.returned (.slice (some ⟨w.heap.size, 0, none⟩) k k)) wr) := by
        have e := HN.out
        have h1 := HH.out.1
        refine ⟨w.heap.size, by rw [e], ?_, HH.out.2⟩
        rw [e] at h1
        exact h1.list (Nat.le_refl _) (by unfold maxLen; omega)
      clear HH hBr
      go_wp2
      go_ret
      exact HP.out
set_option maxRecDepth 100000 in
set_option maxHeartbeats 4000000 in
theorem toRegOp_n (cs : List Value) (x0 : Int) (x1 : Bool) (x2 : ByteArray) (x3 : Int) (x4 : List (Sh.T .int)) (x5 : Int) (x6 : Int) (x7 : ByteArray) (x8 : Int) (x9 : Int) (w : World) (hz : szD shRegOp (x0, x1, x2, x3, x4, (x5, x6, x7, ()), x8, x9, ()) ≤ 1073741824) (h : Lies w shRegOp cs (x0, x1, x2, x3, x4, (x5, x6, x7, ()), x8, x9, ())) :
    Calls Try.prog 111 #[.agg cs.toArray] w (ToP shRegOp (x0, x1, x2, x3, x4, (x5, x6, x7, ()), x8, x9, ()) w) := by
  obtain ⟨a1, k1, rfl, h1⟩ := lies_RegOp h
  have HE : Hid (szD shRegOp (x0, x1, x2, x3, x4, (x5, x6, x7, ()), x8, x9, ()) = (0 + (0 + (x2.size + (0 + (szD (.list .int) x4 + (szD shCopy (x5, x6, x7, ()) + (0 + (0 + 0))))))))) := rfl
  have HZ : Hid (szD shRegOp (x0, x1, x2, x3, x4, (x5, x6, x7, ()), x8, x9, ()) ≤ 1073741824) := hz
  have HL : Hid (True ∧ Lies w (.list .int) [.slice a1 x4.length k1] x4) := ⟨trivial, h1⟩
  clear h hz h1
  go_enter Try.func111, Try.ntmps111
  go_wp2_with fail
  obtain ⟨W0, hW⟩ : ∃ x, x = ((w.alloc (.cells #[.int .i64 x0, .bool x1, .string x2, .int .i64 x3, .slice a1 x4.length k1, .int .i64 x5, .int .i64 x6, .string x7, .int .i64 x8, .int .i64 x9] 140)).alloc (.cells #[.int .i64 0, .bool false, .string ⟨#[]⟩, .int .i64 0, .slice none 0 0, .int .i64 0, .int .i64 0, .string ⟨#[]⟩, .int .i64 0, .int .i64 0] 53)).alloc (.cells #[.int .i64 x0, .bool x1, .string x2, .int .i64 x3, .slice none 0 0, .int .i64 0, .int .i64 0, .string ⟨#[]⟩, .int .i64 0, .int .i64 0] 53) := ⟨_, rfl⟩
  have HB0 : Hid (Below w.heap.size w W0 ∧ Bx W0 w.heap.size [.int .i64 x0, .bool x1, .string x2, .int .i64 x3, .slice a1 x4.length k1, .int .i64 x5, .int .i64 x6, .string x7, .int .i64 x8, .int .i64 x9] ∧ Bx W0 (w.heap.size + 1) [.int .i64 0, .bool false, .string ⟨#[]⟩, .int .i64 0, .slice none 0 0, .int .i64 0, .int .i64 0, .string ⟨#[]⟩, .int .i64 0, .int .i64 0] ∧ Bx W0 (w.heap.size + 1 + 1) [.int .i64 x0, .bool x1, .string x2, .int .i64 x3, .slice none 0 0, .int .i64 0, .int .i64 0, .string ⟨#[]⟩, .int .i64 0, .int .i64 0] ∧ W0.heap.size = w.heap.size + 1 + 1 + 1) := hW ▸ ⟨(((Below.refl _ _).alloc (Nat.le_refl _) _).alloc (by simp) _).alloc (by simp; omega) _, ((Bx.new w [.int .i64 x0, .bool x1, .string x2, .int .i64 x3, .slice a1 x4.length k1, .int .i64 x5, .int .i64 x6, .string x7, .int .i64 x8, .int .i64 x9] _).alloc _).alloc _, (Bx.newAt (by simp)).alloc _, Bx.newAt (by simp), by simp⟩
  rw [← hW]
  clear hW
  refine (toIntS_n _ _ x4 W0 (by have := HZ.out; rw [HE.out] at this; omega) (HL.out.2.next HB0.out.1)).mono ?_
  rintro r w1 ⟨g1, rfl, ho, hb⟩
  have O1 : Hid (Own w1 (.list .int) [.slice (some ⟨g1, 0, none⟩) x4.length x4.length] x4 (Btw W0.heap.size w1.heap.size)) := ho
  clear ho
  have HC1 : Hid (Below w.heap.size w w1 ∧ Bx w1 w.heap.size [.int .i64 x0, .bool x1, .string x2, .int .i64 x3, .slice a1 x4.length k1, .int .i64 x5, .int .i64 x6, .string x7, .int .i64 x8, .int .i64 x9] ∧ Bx w1 (w.heap.size + 1) [.int .i64 0, .bool false, .string ⟨#[]⟩, .int .i64 0, .slice none 0 0, .int .i64 0, .int .i64 0, .string ⟨#[]⟩, .int .i64 0, .int .i64 0] ∧ Bx w1 (w.heap.size + 1 + 1) [.int .i64 x0, .bool x1, .string x2, .int .i64 x3, .slice none 0 0, .int .i64 0, .int .i64 0, .string ⟨#[]⟩, .int .i64 0, .int .i64 0]) := ⟨HB0.out.1.trans (hb.mono HB0.out.1.size), HB0.out.2.1.next hb, HB0.out.2.2.1.next hb, HB0.out.2.2.2.1.next hb⟩
  have hs1 : W0.heap.size ≤ w1.heap.size := hb.size
  have ht1 := HB0.out.2.2.2.2
  clear hb HB0
  have d0 := HC1.out.2.1.cell 0 rfl
  have d1 := HC1.out.2.1.cell 1 rfl
  have d2 := HC1.out.2.1.cell 2 rfl
  have d3 := HC1.out.2.1.cell 3 rfl
  have d4 := HC1.out.2.1.cell 4 rfl
  have d5 := HC1.out.2.1.cell 5 rfl
  have d6 := HC1.out.2.1.cell 6 rfl
  have d7 := HC1.out.2.1.cell 7 rfl
  have d8 := HC1.out.2.1.cell 8 rfl
  have d9 := HC1.out.2.1.cell 9 rfl
  have dz := HC1.out.2.1.2
  have e0 := HC1.out.2.2.2.cell 0 rfl
  have f0 := HC1.out.2.2.2.frz 0 (by simp)
  have y0 := HC1.out.2.2.1.cell 0 rfl
  have v0 := HC1.out.2.2.1.frz 0 (by simp)
  have e1 := HC1.out.2.2.2.cell 1 rfl
  have f1 := HC1.out.2.2.2.frz 1 (by simp)
  have y1 := HC1.out.2.2.1.cell 1 rfl
  have v1 := HC1.out.2.2.1.frz 1 (by simp)
  have e2 := HC1.out.2.2.2.cell 2 rfl
  have f2 := HC1.out.2.2.2.frz 2 (by simp)
  have y2 := HC1.out.2.2.1.cell 2 rfl
  have v2 := HC1.out.2.2.1.frz 2 (by simp)
  have e3 := HC1.out.2.2.2.cell 3 rfl
  have f3 := HC1.out.2.2.2.frz 3 (by simp)
  have y3 := HC1.out.2.2.1.cell 3 rfl
  have v3 := HC1.out.2.2.1.frz 3 (by simp)
  have e4 := HC1.out.2.2.2.cell 4 rfl
  have f4 := HC1.out.2.2.2.frz 4 (by simp)
  have y4 := HC1.out.2.2.1.cell 4 rfl
  have v4 := HC1.out.2.2.1.frz 4 (by simp)
  have e5 := HC1.out.2.2.2.cell 5 rfl
  have f5 := HC1.out.2.2.2.frz 5 (by simp)
  have y5 := HC1.out.2.2.1.cell 5 rfl
  have v5 := HC1.out.2.2.1.frz 5 (by simp)
  have e6 := HC1.out.2.2.2.cell 6 rfl
  have f6 := HC1.out.2.2.2.frz 6 (by simp)
  have y6 := HC1.out.2.2.1.cell 6 rfl
  have v6 := HC1.out.2.2.1.frz 6 (by simp)
  have e7 := HC1.out.2.2.2.cell 7 rfl
  have f7 := HC1.out.2.2.2.frz 7 (by simp)
  have y7 := HC1.out.2.2.1.cell 7 rfl
  have v7 := HC1.out.2.2.1.frz 7 (by simp)
  have e8 := HC1.out.2.2.2.cell 8 rfl
  have f8 := HC1.out.2.2.2.frz 8 (by simp)
  have y8 := HC1.out.2.2.1.cell 8 rfl
  have v8 := HC1.out.2.2.1.frz 8 (by simp)
  have e9 := HC1.out.2.2.2.cell 9 rfl
  have f9 := HC1.out.2.2.2.frz 9 (by simp)
  have y9 := HC1.out.2.2.1.cell 9 rfl
  have v9 := HC1.out.2.2.1.frz 9 (by simp)
  have ez := HC1.out.2.2.2.2
  have yz := HC1.out.2.2.1.2
  go_wp2_with fail
  obtain ⟨W1, hW⟩ : ∃ x, x = (w1.setCell ⟨w.heap.size + 1 + 1, 4, none⟩ (.slice (some ⟨g1, 0, none⟩) x4.length x4.length)) := ⟨_, rfl⟩
  have HB1 : Hid (Below w.heap.size w W1 ∧ Bx W1 w.heap.size [.int .i64 x0, .bool x1, .string x2, .int .i64 x3, .slice a1 x4.length k1, .int .i64 x5, .int .i64 x6, .string x7, .int .i64 x8, .int .i64 x9] ∧ Bx W1 (w.heap.size + 1) [.int .i64 0, .bool false, .string ⟨#[]⟩, .int .i64 0, .slice none 0 0, .int .i64 0, .int .i64 0, .string ⟨#[]⟩, .int .i64 0, .int .i64 0] ∧ Bx W1 (w.heap.size + 1 + 1) [.int .i64 x0, .bool x1, .string x2, .int .i64 x3, .slice (some ⟨g1, 0, none⟩) x4.length x4.length, .int .i64 0, .int .i64 0, .string ⟨#[]⟩, .int .i64 0, .int .i64 0] ∧ W1.heap.size = w1.heap.size) := hW ▸ ⟨(HC1.out.1.setCell (p := ⟨w.heap.size + 1 + 1, 4, none⟩) (by simp; omega) (.slice (some ⟨g1, 0, none⟩) x4.length x4.length)), (HC1.out.2.1.other (by omega)), (HC1.out.2.2.1.other (by omega)), (HC1.out.2.2.2.set (k := 4) (by simp) (.slice (some ⟨g1, 0, none⟩) x4.length x4.length)), by simp⟩
  have O1 : Hid (Own W1 (.list .int) [.slice (some ⟨g1, 0, none⟩) x4.length x4.length] x4 (Btw W0.heap.size w1.heap.size)) := hW ▸ (O1.out.set (p := ⟨w.heap.size + 1 + 1, 4, none⟩) (by simp only [Btw]; omega) (.slice (some ⟨g1, 0, none⟩) x4.length x4.length))
  rw [← hW]
  clear hW HC1 e0 f0 e1 f1 e2 f2 e3 f3 e4 f4 e5 f5 e6 f6 e7 f7 e8 f8 e9 f9 ez d0 d1 d2 d3 d4 d5 d6 d7 d8 d9 dz y0 v0 y1 v1 y2 v2 y3 v3 y4 v4 y5 v5 y6 v6 y7 v7 y8 v8 y9 v9 yz
  refine (toCopy_n [.int .i64 x5, .int .i64 x6, .string x7] x5 x6 x7 W1 (by have := HZ.out; rw [HE.out] at this; omega) mk_Copy).mono ?_
  rintro r w2 ⟨cs2, rfl, ho, hb⟩
  obtain rfl := own_Copy ho
  clear ho
  have O1 : Hid (Own w2 (.list .int) [.slice (some ⟨g1, 0, none⟩) x4.length x4.length] x4 (Btw W0.heap.size w1.heap.size)) := O1.out.next hb
  have HC2 : Hid (Below w.heap.size w w2 ∧ Bx w2 w.heap.size [.int .i64 x0, .bool x1, .string x2, .int .i64 x3, .slice a1 x4.length k1, .int .i64 x5, .int .i64 x6, .string x7, .int .i64 x8, .int .i64 x9] ∧ Bx w2 (w.heap.size + 1) [.int .i64 0, .bool false, .string ⟨#[]⟩, .int .i64 0, .slice none 0 0, .int .i64 0, .int .i64 0, .string ⟨#[]⟩, .int .i64 0, .int .i64 0] ∧ Bx w2 (w.heap.size + 1 + 1) [.int .i64 x0, .bool x1, .string x2, .int .i64 x3, .slice (some ⟨g1, 0, none⟩) x4.length x4.length, .int .i64 0, .int .i64 0, .string ⟨#[]⟩, .int .i64 0, .int .i64 0]) := ⟨HB1.out.1.trans (hb.mono HB1.out.1.size), HB1.out.2.1.next hb, HB1.out.2.2.1.next hb, HB1.out.2.2.2.1.next hb⟩
  have hs2 : W1.heap.size ≤ w2.heap.size := hb.size
  have ht2 := HB1.out.2.2.2.2
  clear hb HB1
  have d0 := HC2.out.2.1.cell 0 rfl
  have d1 := HC2.out.2.1.cell 1 rfl
  have d2 := HC2.out.2.1.cell 2 rfl
  have d3 := HC2.out.2.1.cell 3 rfl
  have d4 := HC2.out.2.1.cell 4 rfl
  have d5 := HC2.out.2.1.cell 5 rfl
  have d6 := HC2.out.2.1.cell 6 rfl
  have d7 := HC2.out.2.1.cell 7 rfl
  have d8 := HC2.out.2.1.cell 8 rfl
  have d9 := HC2.out.2.1.cell 9 rfl
  have dz := HC2.out.2.1.2
  have e0 := HC2.out.2.2.2.cell 0 rfl
  have f0 := HC2.out.2.2.2.frz 0 (by simp)
  have y0 := HC2.out.2.2.1.cell 0 rfl
  have v0 := HC2.out.2.2.1.frz 0 (by simp)
  have e1 := HC2.out.2.2.2.cell 1 rfl
  have f1 := HC2.out.2.2.2.frz 1 (by simp)
  have y1 := HC2.out.2.2.1.cell 1 rfl
  have v1 := HC2.out.2.2.1.frz 1 (by simp)
  have e2 := HC2.out.2.2.2.cell 2 rfl
  have f2 := HC2.out.2.2.2.frz 2 (by simp)
  have y2 := HC2.out.2.2.1.cell 2 rfl
  have v2 := HC2.out.2.2.1.frz 2 (by simp)
  have e3 := HC2.out.2.2.2.cell 3 rfl
  have f3 := HC2.out.2.2.2.frz 3 (by simp)
  have y3 := HC2.out.2.2.1.cell 3 rfl
  have v3 := HC2.out.2.2.1.frz 3 (by simp)
  have e4 := HC2.out.2.2.2.cell 4 rfl
  have f4 := HC2.out.2.2.2.frz 4 (by simp)
  have y4 := HC2.out.2.2.1.cell 4 rfl
  have v4 := HC2.out.2.2.1.frz 4 (by simp)
  have e5 := HC2.out.2.2.2.cell 5 rfl
  have f5 := HC2.out.2.2.2.frz 5 (by simp)
  have y5 := HC2.out.2.2.1.cell 5 rfl
  have v5 := HC2.out.2.2.1.frz 5 (by simp)
  have e6 := HC2.out.2.2.2.cell 6 rfl
  have f6 := HC2.out.2.2.2.frz 6 (by simp)
  have y6 := HC2.out.2.2.1.cell 6 rfl
  have v6 := HC2.out.2.2.1.frz 6 (by simp)
  have e7 := HC2.out.2.2.2.cell 7 rfl
  have f7 := HC2.out.2.2.2.frz 7 (by simp)
  have y7 := HC2.out.2.2.1.cell 7 rfl
  have v7 := HC2.out.2.2.1.frz 7 (by simp)
  have e8 := HC2.out.2.2.2.cell 8 rfl
  have f8 := HC2.out.2.2.2.frz 8 (by simp)
  have y8 := HC2.out.2.2.1.cell 8 rfl
  have v8 := HC2.out.2.2.1.frz 8 (by simp)
  have e9 := HC2.out.2.2.2.cell 9 rfl
  have f9 := HC2.out.2.2.2.frz 9 (by simp)
  have y9 := HC2.out.2.2.1.cell 9 rfl
  have v9 := HC2.out.2.2.1.frz 9 (by simp)
  have ez := HC2.out.2.2.2.2
  have yz := HC2.out.2.2.1.2
  go_wp2
  obtain ⟨WE, hW⟩ : ∃ x, x = (((((((((((((((w2.setCell ⟨w.heap.size + 1 + 1, 5, none⟩ (.int .i64 x5)).setCell ⟨w.heap.size + 1 + 1, 6, none⟩ (.int .i64 x6)).setCell ⟨w.heap.size + 1 + 1, 7, none⟩ (.string x7)).setCell ⟨w.heap.size + 1 + 1, 8, none⟩ (.int .i64 x8)).setCell ⟨w.heap.size + 1 + 1, 9, none⟩ (.int .i64 x9)).setCell ⟨w.heap.size + 1, 0, none⟩ (.int .i64 x0)).setCell ⟨w.heap.size + 1, 1, none⟩ (.bool x1)).setCell ⟨w.heap.size + 1, 2, none⟩ (.string x2)).setCell ⟨w.heap.size + 1, 3, none⟩ (.int .i64 x3)).setCell ⟨w.heap.size + 1, 4, none⟩ (.slice (some ⟨g1, 0, none⟩) x4.length x4.length)).setCell ⟨w.heap.size + 1, 5, none⟩ (.int .i64 x5)).setCell ⟨w.heap.size + 1, 6, none⟩ (.int .i64 x6)).setCell ⟨w.heap.size + 1, 7, none⟩ (.string x7)).setCell ⟨w.heap.size + 1, 8, none⟩ (.int .i64 x8)).setCell ⟨w.heap.size + 1, 9, none⟩ (.int .i64 x9)) := ⟨_, rfl⟩
  have HF : Hid (Below w.heap.size w WE ∧ Bx WE (w.heap.size + 1) [.int .i64 x0, .bool x1, .string x2, .int .i64 x3, .slice (some ⟨g1, 0, none⟩) x4.length x4.length, .int .i64 x5, .int .i64 x6, .string x7, .int .i64 x8, .int .i64 x9] ∧ WE.heap.size = w2.heap.size) := hW ▸ ⟨(((((((((((((((HC2.out.1.setCell (p := ⟨w.heap.size + 1 + 1, 5, none⟩) (by simp; omega) (.int .i64 x5)).setCell (p := ⟨w.heap.size + 1 + 1, 6, none⟩) (by simp; omega) (.int .i64 x6)).setCell (p := ⟨w.heap.size + 1 + 1, 7, none⟩) (by simp; omega) (.string x7)).setCell (p := ⟨w.heap.size + 1 + 1, 8, none⟩) (by simp; omega) (.int .i64 x8)).setCell (p := ⟨w.heap.size + 1 + 1, 9, none⟩) (by simp; omega) (.int .i64 x9)).setCell (p := ⟨w.heap.size + 1, 0, none⟩) (by simp) (.int .i64 x0)).setCell (p := ⟨w.heap.size + 1, 1, none⟩) (by simp) (.bool x1)).setCell (p := ⟨w.heap.size + 1, 2, none⟩) (by simp) (.string x2)).setCell (p := ⟨w.heap.size + 1, 3, none⟩) (by simp) (.int .i64 x3)).setCell (p := ⟨w.heap.size + 1, 4, none⟩) (by simp) (.slice (some ⟨g1, 0, none⟩) x4.length x4.length)).setCell (p := ⟨w.heap.size + 1, 5, none⟩) (by simp) (.int .i64 x5)).setCell (p := ⟨w.heap.size + 1, 6, none⟩) (by simp) (.int .i64 x6)).setCell (p := ⟨w.heap.size + 1, 7, none⟩) (by simp) (.string x7)).setCell (p := ⟨w.heap.size + 1, 8, none⟩) (by simp) (.int .i64 x8)).setCell (p := ⟨w.heap.size + 1, 9, none⟩) (by simp) (.int .i64 x9)), (((((((((((((((HC2.out.2.2.1.other (by omega)).other (by omega)).other (by omega)).other (by omega)).other (by omega)).set (k := 0) (by simp) (.int .i64 x0)).set (k := 1) (by simp) (.bool x1)).set (k := 2) (by simp) (.string x2)).set (k := 3) (by simp) (.int .i64 x3)).set (k := 4) (by simp) (.slice (some ⟨g1, 0, none⟩) x4.length x4.length)).set (k := 5) (by simp) (.int .i64 x5)).set (k := 6) (by simp) (.int .i64 x6)).set (k := 7) (by simp) (.string x7)).set (k := 8) (by simp) (.int .i64 x8)).set (k := 9) (by simp) (.int .i64 x9)), by simp⟩
  have O1 : Hid (Own WE (.list .int) [.slice (some ⟨g1, 0, none⟩) x4.length x4.length] x4 (Btw W0.heap.size w1.heap.size)) := hW ▸ (((((((((((((((O1.out.set (p := ⟨w.heap.size + 1 + 1, 5, none⟩) (by simp only [Btw]; omega) (.int .i64 x5)).set (p := ⟨w.heap.size + 1 + 1, 6, none⟩) (by simp only [Btw]; omega) (.int .i64 x6)).set (p := ⟨w.heap.size + 1 + 1, 7, none⟩) (by simp only [Btw]; omega) (.string x7)).set (p := ⟨w.heap.size + 1 + 1, 8, none⟩) (by simp only [Btw]; omega) (.int .i64 x8)).set (p := ⟨w.heap.size + 1 + 1, 9, none⟩) (by simp only [Btw]; omega) (.int .i64 x9)).set (p := ⟨w.heap.size + 1, 0, none⟩) (by simp only [Btw]; omega) (.int .i64 x0)).set (p := ⟨w.heap.size + 1, 1, none⟩) (by simp only [Btw]; omega) (.bool x1)).set (p := ⟨w.heap.size + 1, 2, none⟩) (by simp only [Btw]; omega) (.string x2)).set (p := ⟨w.heap.size + 1, 3, none⟩) (by simp only [Btw]; omega) (.int .i64 x3)).set (p := ⟨w.heap.size + 1, 4, none⟩) (by simp only [Btw]; omega) (.slice (some ⟨g1, 0, none⟩) x4.length x4.length)).set (p := ⟨w.heap.size + 1, 5, none⟩) (by simp only [Btw]; omega) (.int .i64 x5)).set (p := ⟨w.heap.size + 1, 6, none⟩) (by simp only [Btw]; omega) (.int .i64 x6)).set (p := ⟨w.heap.size + 1, 7, none⟩) (by simp only [Btw]; omega) (.string x7)).set (p := ⟨w.heap.size + 1, 8, none⟩) (by simp only [Btw]; omega) (.int .i64 x8)).set (p := ⟨w.heap.size + 1, 9, none⟩) (by simp only [Btw]; omega) (.int .i64 x9))
  rw [← hW]
  clear hW
  have r0 := HF.out.2.1.cell 0 rfl
  have r1 := HF.out.2.1.cell 1 rfl
  have r2 := HF.out.2.1.cell 2 rfl
  have r3 := HF.out.2.1.cell 3 rfl
  have r4 := HF.out.2.1.cell 4 rfl
  have r5 := HF.out.2.1.cell 5 rfl
  have r6 := HF.out.2.1.cell 6 rfl
  have r7 := HF.out.2.1.cell 7 rfl
  have r8 := HF.out.2.1.cell 8 rfl
  have r9 := HF.out.2.1.cell 9 rfl
  have hzz := HF.out.2.2
  exact bodyPost_ret (v := .agg #[.int .i64 x0, .bool x1, .string x2, .int .i64 x3, .slice (some ⟨g1, 0, none⟩) x4.length x4.length, .int .i64 x5, .int .i64 x6, .string x7, .int .i64 x8, .int .i64 x9]) (by simp [results, Try.results111, go_sem, r0, r1, r2, r3, r4, r5, r6, r7, r8, r9]) rfl ⟨_, rfl, mkown_RegOp O1.out (fun k hk => by simp only [Btw] at hk ⊢; omega), HF.out.1⟩
set_option maxRecDepth 100000 in
set_option maxHeartbeats 4000000 in
theorem toRegOpS_n (a : Option Addr) (cap : Nat) (x : List (Sh.T shRegOp)) (w : World) (hz : szD (.list shRegOp) x ≤ 1073741824) (h : Lies w (.list shRegOp) [.slice a x.length cap] x) :
    Calls Try.prog 82 #[.slice a x.length cap] w (ToL shRegOp x w) := by
  have HL : Hid (Lies w (.list shRegOp) [.slice a x.length cap] x ∧ szD (.list shRegOp) x ≤ 1073741824) := ⟨h, hz⟩
  have hn : x.length ≤ 1073741824 := by simp only [szD] at hz; omega
  clear h hz
  obtain ⟨n, hnn⟩ : ∃ n, n = x.length := ⟨_, rfl⟩
  have HN : Hid (n = x.length) := hnn
  rw [← hnn] at hn ⊢
  clear hnn
  obtain ⟨i0, hi, hz0, hz1, hz2⟩ := info_parts inf_RegOp
  go_enter Try.func82, Try.ntmps82
  go_wp2_with (at_make; refine wpList_make_full _ rfl (.tmp 6) (.tmp 6) 27 rfl w.heap.size 53 i0 (.agg #[.int .i64 0, .bool false, .string ⟨#[]⟩, .int .i64 0, .slice none 0 0, .int .i64 0, .int .i64 0, .string ⟨#[]⟩, .int .i64 0, .int .i64 0]) 10 Try.underlying27 hi hz0 hz1 .i64 .i64 _ _ n rfl rfl rfl rfl (by rw [hz2]; omega) (by unfold maxLen; omega) (Nat.le_refl _) ?_; intro w1 hown hgrow)
  have hR := room_made hown
  have hB : Below w.heap.size w w1 := (Below.refl _ _).grown hgrow (Nat.le_refl _) (fun k hk => by cases hk)
  have hG : w.heap.size < w1.heap.size := by
    obtain ⟨_, h | ⟨g', cap', cur, hv, hb, hh, _⟩⟩ := hown
    · exact absurd h.1 (by simp)
    · simp only [Value.slice.injEq, Option.some.injEq, Addr.mk.injEq, and_true, true_and] at hv
      obtain ⟨rfl, rfl⟩ := hv
      rcases Nat.lt_or_ge w.heap.size w1.heap.size with h | h
      · exact h
      · rw [Array.getElem?_eq_none h] at hh; cases hh
  have HI : Hid (OwnK w1 shRegOp w.heap.size n 0 x (Btw w.heap.size w1.heap.size) (fun _ _ => False) ∧ Below w.heap.size w w1) := ⟨⟨hG, ⟨Nat.le_refl _, hG⟩, fun i hi => absurd hi (by omega), fun i j _ hj => absurd hj (by omega), hR, fun i _ hi => absurd hi (by omega)⟩, hB⟩
  clear hown hgrow hi hz0 hz1 hz2 hR hB hG
  go_loopw [4] (fun i wr => ∃ (k : Nat) (B : Nat → Nat → Prop), k ≤ n ∧ i = .int .i64 k ∧ OwnK wr shRegOp w.heap.size n k x (Btw w.heap.size wr.heap.size) B ∧ Below w.heap.size w wr) (fun i _ => n - (intOf i).toNat)
  case atStart => exact ⟨0, _, Nat.zero_le _, rfl, HI.out⟩
  case round =>
    obtain ⟨k, B, hk, rfl, hO, hBr⟩ := hrel
    clear HI
    have HH : Hid (OwnK wr shRegOp w.heap.size n k x (Btw w.heap.size wr.heap.size) B ∧ Below w.heap.size w wr) := ⟨hO, hBr⟩
    clear hO
    by_cases hlt : k < n
    · have hlx : k < x.length := by have := HN.out; omega
      obtain ⟨g, off, hgo, hgs, ec, hel, hec, hle⟩ := Lies.elem (HL.out.1.next hBr) hlx
      subst hgo
      have hlt' : (k : Int) < (n : Int) := by omega
      have HS : Hid (szD shRegOp x[k] ≤ 1073741824) := Hid.intro (by have := sz_mem (List.getElem_mem hlx); have := HL.out.2; omega)
      have HCS : Hid (Lies wr shRegOp ec x[k]) := hle
      obtain ⟨v0, v1, v2, v3, v4, v5, v6, v7, v8, v9, hev⟩ := list_of10 hel
      subst hev
      have c0 : wr.cell? ⟨g, off + k * 10, none⟩ = some v0 := hec 0 (by simp)
      have c1 : wr.cell? ⟨g, off + k * 10 + 1, none⟩ = some v1 := hec 1 (by simp)
      have c2 : wr.cell? ⟨g, off + k * 10 + 2, none⟩ = some v2 := hec 2 (by simp)
      have c3 : wr.cell? ⟨g, off + k * 10 + 3, none⟩ = some v3 := hec 3 (by simp)
      have c4 : wr.cell? ⟨g, off + k * 10 + 4, none⟩ = some v4 := hec 4 (by simp)
      have c5 : wr.cell? ⟨g, off + k * 10 + 5, none⟩ = some v5 := hec 5 (by simp)
      have c6 : wr.cell? ⟨g, off + k * 10 + 6, none⟩ = some v6 := hec 6 (by simp)
      have c7 : wr.cell? ⟨g, off + k * 10 + 7, none⟩ = some v7 := hec 7 (by simp)
      have c8 : wr.cell? ⟨g, off + k * 10 + 8, none⟩ = some v8 := hec 8 (by simp)
      have c9 : wr.cell? ⟨g, off + k * 10 + 9, none⟩ = some v9 := hec 9 (by simp)
      clear hec hel hBr hle
      go_wp2_with fail
      refine (toRegOp_n [v0, v1, v2, v3, v4, v5, v6, v7, v8, v9] x[k].1 x[k].2.1 x[k].2.2.1 x[k].2.2.2.1 x[k].2.2.2.2.1 x[k].2.2.2.2.2.1.1 x[k].2.2.2.2.2.1.2.1 x[k].2.2.2.2.2.1.2.2.1 x[k].2.2.2.2.2.2.1 x[k].2.2.2.2.2.2.2.1 _ HS.out HCS.out).mono ?_
      rintro r w2 ⟨cs2, rfl, ho, hb⟩
      obtain ⟨p1, q1, _, hev, _⟩ := own_RegOp (x0 := x[k].1) (x1 := x[k].2.1) (x2 := x[k].2.2.1) (x3 := x[k].2.2.2.1) (x4 := x[k].2.2.2.2.1) (x5 := x[k].2.2.2.2.2.1.1) (x6 := x[k].2.2.2.2.2.1.2.1) (x7 := x[k].2.2.2.2.2.1.2.2.1) (x8 := x[k].2.2.2.2.2.2.1) (x9 := x[k].2.2.2.2.2.2.2.1) ho
      subst hev
      have h2 := HH.out.1.next hb
      have hm := h2.more (S' := Btw w.heap.size w2.heap.size) (Sk := Btw wr.heap.size w2.heap.size) (ec := [.int .i64 x[k].1, .bool x[k].2.1, .string x[k].2.2.1, .int .i64 x[k].2.2.2.1, .slice p1 x[k].2.2.2.2.1.length q1, .int .i64 x[k].2.2.2.2.2.1.1, .int .i64 x[k].2.2.2.2.2.1.2.1, .string x[k].2.2.2.2.2.1.2.2.1, .int .i64 x[k].2.2.2.2.2.2.1, .int .i64 x[k].2.2.2.2.2.2.2.1]) hlt hlx rfl ho (fun b hb2 => ⟨hb2.1, Nat.lt_of_lt_of_le hb2.2 hb.size⟩) (fun b hb2 => ⟨⟨Nat.le_trans HH.out.2.size hb2.1, hb2.2⟩, fun q => Nat.lt_irrefl _ (Nat.lt_of_lt_of_le q.2 hb2.1)⟩)
      have hB2 : Below w.heap.size w w2 := HH.out.2.trans (hb.mono HH.out.2.size)
      have HF : Hid (OwnK (put w2 w.heap.size (k * 10) [.int .i64 x[k].1, .bool x[k].2.1, .string x[k].2.2.1, .int .i64 x[k].2.2.2.1, .slice p1 x[k].2.2.2.2.1.length q1, .int .i64 x[k].2.2.2.2.2.1.1, .int .i64 x[k].2.2.2.2.2.1.2.1, .string x[k].2.2.2.2.2.1.2.2.1, .int .i64 x[k].2.2.2.2.2.2.1, .int .i64 x[k].2.2.2.2.2.2.2.1]) shRegOp w.heap.size n (k + 1) x (Btw w.heap.size (put w2 w.heap.size (k * 10) [.int .i64 x[k].1, .bool x[k].2.1, .string x[k].2.2.1, .int .i64 x[k].2.2.2.1, .slice p1 x[k].2.2.2.2.1.length q1, .int .i64 x[k].2.2.2.2.2.1.1, .int .i64 x[k].2.2.2.2.2.1.2.1, .string x[k].2.2.2.2.2.1.2.2.1, .int .i64 x[k].2.2.2.2.2.2.1, .int .i64 x[k].2.2.2.2.2.2.2.1]).heap.size) (fun i => if i = k then Btw wr.heap.size w2.heap.size else B i) ∧ Below w.heap.size w (put w2 w.heap.size (k * 10) [.int .i64 x[k].1, .bool x[k].2.1, .string x[k].2.2.1, .int .i64 x[k].2.2.2.1, .slice p1 x[k].2.2.2.2.1.length q1, .int .i64 x[k].2.2.2.2.2.1.1, .int .i64 x[k].2.2.2.2.2.1.2.1, .string x[k].2.2.2.2.2.1.2.2.1, .int .i64 x[k].2.2.2.2.2.2.1, .int .i64 x[k].2.2.2.2.2.2.2.1])) := ⟨by rw [put_size]; exact hm, put_below (Nat.le_refl _) _ _ _ _ hB2⟩
      have hrm : Room w2 w.heap.size (n * 10) := h2.2.2.2.2.1
      obtain ⟨⟨y0, r0⟩, f0⟩ := hrm (k * 10) (by omega)
      obtain ⟨⟨y1, r1⟩, f1⟩ := hrm (k * 10 + 1) (by omega)
      obtain ⟨⟨y2, r2⟩, f2⟩ := hrm (k * 10 + 2) (by omega)
      obtain ⟨⟨y3, r3⟩, f3⟩ := hrm (k * 10 + 3) (by omega)
      obtain ⟨⟨y4, r4⟩, f4⟩ := hrm (k * 10 + 4) (by omega)
      obtain ⟨⟨y5, r5⟩, f5⟩ := hrm (k * 10 + 5) (by omega)
      obtain ⟨⟨y6, r6⟩, f6⟩ := hrm (k * 10 + 6) (by omega)
      obtain ⟨⟨y7, r7⟩, f7⟩ := hrm (k * 10 + 7) (by omega)
      obtain ⟨⟨y8, r8⟩, f8⟩ := hrm (k * 10 + 8) (by omega)
      obtain ⟨⟨y9, r9⟩, f9⟩ := hrm (k * 10 + 9) (by omega)
      have z2 := h2.1
      clear h2 hm hB2 hb ho hrm HH HCS c0 c1 c2 c3 c4 c5 c6 c7 c8 c9
      go_wp2
      go_roundw
      case rel => exact ⟨k + 1, _, by omega, by go_num, HF.out⟩
      case measure => simp [intOf]; omega
    · have hkn : k = n := by omega
      subst hkn
      have HP : Hid (ToL shRegOp x w (.returned (.slice (some ⟨w.heap.size, 0, none⟩) k k)) wr) := by
        have e := HN.out
        have h1 := HH.out.1
        refine ⟨w.heap.size, by rw [e], ?_, HH.out.2⟩
        rw [e] at h1
        exact h1.list (Nat.le_refl _) (by unfold maxLen; omega)
      clear HH hBr
      go_wp2
      go_ret
      exact HP.out
set_option maxRecDepth 100000 in
set_option maxHeartbeats 4000000 in
theorem toRegister_n (cs : List Value) (x0 : Int) (x1 : List (Sh.T shCopy)) (x2 : List (Sh.T shRegOp)) (w : World) (hz : szD shRegister (x0, x1, x2, ()) ≤ 1073741824) (h : Lies w shRegister cs (x0, x1, x2, ())) :
    Calls Try.prog 29 #[.agg cs.toArray] w (ToP shRegister (x0, x1, x2, ()) w) := by
  obtain ⟨a1, k1, a2, k2, rfl, h1, h2⟩ := lies_Register h
  have HE : Hid (szD shRegister (x0, x1, x2, ()) = (0 + (szD (.list shCopy) x1 + (szD (.list shRegOp) x2 + 0)))) := rfl
  have HZ : Hid (szD shRegister (x0, x1, x2, ()) ≤ 1073741824) := hz
  have HL : Hid (True ∧ Lies w (.list shCopy) [.slice a1 x1.length k1] x1 ∧ Lies w (.list shRegOp) [.slice a2 x2.length k2] x2) := ⟨trivial, h1, h2⟩
  clear h hz h1 h2
  go_enter Try.func29, Try.ntmps29
  go_wp2_with fail
  obtain ⟨W0, hW⟩ : ∃ x, x = ((w.alloc (.cells #[.int .i64 x0, .slice a1 x1.length k1, .slice a2 x2.length k2] 62)).alloc (.cells #[.int .i64 0, .slice none 0 0, .slice none 0 0] 29)).alloc (.cells #[.int .i64 x0, .slice none 0 0, .slice none 0 0] 29) := ⟨_, rfl⟩
  have HB0 : Hid (Below w.heap.size w W0 ∧ Bx W0 w.heap.size [.int .i64 x0, .slice a1 x1.length k1, .slice a2 x2.length k2] ∧ Bx W0 (w.heap.size + 1) [.int .i64 0, .slice none 0 0, .slice none 0 0] ∧ Bx W0 (w.heap.size + 1 + 1) [.int .i64 x0, .slice none 0 0, .slice none 0 0] ∧ W0.heap.size = w.heap.size + 1 + 1 + 1) := hW ▸ ⟨(((Below.refl _ _).alloc (Nat.le_refl _) _).alloc (by simp) _).alloc (by simp; omega) _, ((Bx.new w [.int .i64 x0, .slice a1 x1.length k1, .slice a2 x2.length k2] _).alloc _).alloc _, (Bx.newAt (by simp)).alloc _, Bx.newAt (by simp), by simp⟩
  rw [← hW]
  clear hW
  refine (toCopyS_n _ _ x1 W0 (by have := HZ.out; rw [HE.out] at this; omega) (HL.out.2.1.next HB0.out.1)).mono ?_
  rintro r w1 ⟨g1, rfl, ho, hb⟩
  have O1 : Hid (Own w1 (.list shCopy) [.slice (some ⟨g1, 0, none⟩) x1.length x1.length] x1 (Btw W0.heap.size w1.heap.size)) := ho
  clear ho
  have HC1 : Hid (Below w.heap.size w w1 ∧ Bx w1 w.heap.size [.int .i64 x0, .slice a1 x1.length k1, .slice a2 x2.length k2] ∧ Bx w1 (w.heap.size + 1) [.int .i64 0, .slice none 0 0, .slice none 0 0] ∧ Bx w1 (w.heap.size + 1 + 1) [.int .i64 x0, .slice none 0 0, .slice none 0 0]) := ⟨HB0.out.1.trans (hb.mono HB0.out.1.size), HB0.out.2.1.next hb, HB0.out.2.2.1.next hb, HB0.out.2.2.2.1.next hb⟩
  have hs1 : W0.heap.size ≤ w1.heap.size := hb.size
  have ht1 := HB0.out.2.2.2.2
  clear hb HB0
  have d0 := HC1.out.2.1.cell 0 rfl
  have d1 := HC1.out.2.1.cell 1 rfl
  have d2 := HC1.out.2.1.cell 2 rfl
  have dz := HC1.out.2.1.2
  have e0 := HC1.out.2.2.2.cell 0 rfl
  have f0 := HC1.out.2.2.2.frz 0 (by simp)
  have y0 := HC1.out.2.2.1.cell 0 rfl
  have v0 := HC1.out.2.2.1.frz 0 (by simp)
  have e1 := HC1.out.2.2.2.cell 1 rfl
  have f1 := HC1.out.2.2.2.frz 1 (by simp)
  have y1 := HC1.out.2.2.1.cell 1 rfl
  have v1 := HC1.out.2.2.1.frz 1 (by simp)
  have e2 := HC1.out.2.2.2.cell 2 rfl
  have f2 := HC1.out.2.2.2.frz 2 (by simp)
  have y2 := HC1.out.2.2.1.cell 2 rfl
  have v2 := HC1.out.2.2.1.frz 2 (by simp)
  have ez := HC1.out.2.2.2.2
  have yz := HC1.out.2.2.1.2
  go_wp2_with fail
  obtain ⟨W1, hW⟩ : ∃ x, x = (w1.setCell ⟨w.heap.size + 1 + 1, 1, none⟩ (.slice (some ⟨g1, 0, none⟩) x1.length x1.length)) := ⟨_, rfl⟩
  have HB1 : Hid (Below w.heap.size w W1 ∧ Bx W1 w.heap.size [.int .i64 x0, .slice a1 x1.length k1, .slice a2 x2.length k2] ∧ Bx W1 (w.heap.size + 1) [.int .i64 0, .slice none 0 0, .slice none 0 0] ∧ Bx W1 (w.heap.size + 1 + 1) [.int .i64 x0, .slice (some ⟨g1, 0, none⟩) x1.length x1.length, .slice none 0 0] ∧ W1.heap.size = w1.heap.size) := hW ▸ ⟨(HC1.out.1.setCell (p := ⟨w.heap.size + 1 + 1, 1, none⟩) (by simp; omega) (.slice (some ⟨g1, 0, none⟩) x1.length x1.length)), (HC1.out.2.1.other (by omega)), (HC1.out.2.2.1.other (by omega)), (HC1.out.2.2.2.set (k := 1) (by simp) (.slice (some ⟨g1, 0, none⟩) x1.length x1.length)), by simp⟩
  have O1 : Hid (Own W1 (.list shCopy) [.slice (some ⟨g1, 0, none⟩) x1.length x1.length] x1 (Btw W0.heap.size w1.heap.size)) := hW ▸ (O1.out.set (p := ⟨w.heap.size + 1 + 1, 1, none⟩) (by simp only [Btw]; omega) (.slice (some ⟨g1, 0, none⟩) x1.length x1.length))
  rw [← hW]
  clear hW HC1 e0 f0 e1 f1 e2 f2 ez d0 d1 d2 dz y0 v0 y1 v1 y2 v2 yz
  refine (toRegOpS_n _ _ x2 W1 (by have := HZ.out; rw [HE.out] at this; omega) (HL.out.2.2.next HB1.out.1)).mono ?_
  rintro r w2 ⟨g2, rfl, ho, hb⟩
  have O2 : Hid (Own w2 (.list shRegOp) [.slice (some ⟨g2, 0, none⟩) x2.length x2.length] x2 (Btw W1.heap.size w2.heap.size)) := ho
  clear ho
  have O1 : Hid (Own w2 (.list shCopy) [.slice (some ⟨g1, 0, none⟩) x1.length x1.length] x1 (Btw W0.heap.size w1.heap.size)) := O1.out.next hb
  have HC2 : Hid (Below w.heap.size w w2 ∧ Bx w2 w.heap.size [.int .i64 x0, .slice a1 x1.length k1, .slice a2 x2.length k2] ∧ Bx w2 (w.heap.size + 1) [.int .i64 0, .slice none 0 0, .slice none 0 0] ∧ Bx w2 (w.heap.size + 1 + 1) [.int .i64 x0, .slice (some ⟨g1, 0, none⟩) x1.length x1.length, .slice none 0 0]) := ⟨HB1.out.1.trans (hb.mono HB1.out.1.size), HB1.out.2.1.next hb, HB1.out.2.2.1.next hb, HB1.out.2.2.2.1.next hb⟩
  have hs2 : W1.heap.size ≤ w2.heap.size := hb.size
  have ht2 := HB1.out.2.2.2.2
  clear hb HB1
  have d0 := HC2.out.2.1.cell 0 rfl
  have d1 := HC2.out.2.1.cell 1 rfl
  have d2 := HC2.out.2.1.cell 2 rfl
  have dz := HC2.out.2.1.2
  have e0 := HC2.out.2.2.2.cell 0 rfl
  have f0 := HC2.out.2.2.2.frz 0 (by simp)
  have y0 := HC2.out.2.2.1.cell 0 rfl
  have v0 := HC2.out.2.2.1.frz 0 (by simp)
  have e1 := HC2.out.2.2.2.cell 1 rfl
  have f1 := HC2.out.2.2.2.frz 1 (by simp)
  have y1 := HC2.out.2.2.1.cell 1 rfl
  have v1 := HC2.out.2.2.1.frz 1 (by simp)
  have e2 := HC2.out.2.2.2.cell 2 rfl
  have f2 := HC2.out.2.2.2.frz 2 (by simp)
  have y2 := HC2.out.2.2.1.cell 2 rfl
  have v2 := HC2.out.2.2.1.frz 2 (by simp)
  have ez := HC2.out.2.2.2.2
  have yz := HC2.out.2.2.1.2
  go_wp2
  obtain ⟨WE, hW⟩ : ∃ x, x = ((((w2.setCell ⟨w.heap.size + 1 + 1, 2, none⟩ (.slice (some ⟨g2, 0, none⟩) x2.length x2.length)).setCell ⟨w.heap.size + 1, 0, none⟩ (.int .i64 x0)).setCell ⟨w.heap.size + 1, 1, none⟩ (.slice (some ⟨g1, 0, none⟩) x1.length x1.length)).setCell ⟨w.heap.size + 1, 2, none⟩ (.slice (some ⟨g2, 0, none⟩) x2.length x2.length)) := ⟨_, rfl⟩
  have HF : Hid (Below w.heap.size w WE ∧ Bx WE (w.heap.size + 1) [.int .i64 x0, .slice (some ⟨g1, 0, none⟩) x1.length x1.length, .slice (some ⟨g2, 0, none⟩) x2.length x2.length] ∧ WE.heap.size = w2.heap.size) := hW ▸ ⟨((((HC2.out.1.setCell (p := ⟨w.heap.size + 1 + 1, 2, none⟩) (by simp; omega) (.slice (some ⟨g2, 0, none⟩) x2.length x2.length)).setCell (p := ⟨w.heap.size + 1, 0, none⟩) (by simp) (.int .i64 x0)).setCell (p := ⟨w.heap.size + 1, 1, none⟩) (by simp) (.slice (some ⟨g1, 0, none⟩) x1.length x1.length)).setCell (p := ⟨w.heap.size + 1, 2, none⟩) (by simp) (.slice (some ⟨g2, 0, none⟩) x2.length x2.length)), ((((HC2.out.2.2.1.other (by omega)).set (k := 0) (by simp) (.int .i64 x0)).set (k := 1) (by simp) (.slice (some ⟨g1, 0, none⟩) x1.length x1.length)).set (k := 2) (by simp) (.slice (some ⟨g2, 0, none⟩) x2.length x2.length)), by simp⟩
  have O1 : Hid (Own WE (.list shCopy) [.slice (some ⟨g1, 0, none⟩) x1.length x1.length] x1 (Btw W0.heap.size w1.heap.size)) := hW ▸ ((((O1.out.set (p := ⟨w.heap.size + 1 + 1, 2, none⟩) (by simp only [Btw]; omega) (.slice (some ⟨g2, 0, none⟩) x2.length x2.length)).set (p := ⟨w.heap.size + 1, 0, none⟩) (by simp only [Btw]; omega) (.int .i64 x0)).set (p := ⟨w.heap.size + 1, 1, none⟩) (by simp only [Btw]; omega) (.slice (some ⟨g1, 0, none⟩) x1.length x1.length)).set (p := ⟨w.heap.size + 1, 2, none⟩) (by simp only [Btw]; omega) (.slice (some ⟨g2, 0, none⟩) x2.length x2.length))
  have O2 : Hid (Own WE (.list shRegOp) [.slice (some ⟨g2, 0, none⟩) x2.length x2.length] x2 (Btw W1.heap.size w2.heap.size)) := hW ▸ ((((O2.out.set (p := ⟨w.heap.size + 1 + 1, 2, none⟩) (by simp only [Btw]; omega) (.slice (some ⟨g2, 0, none⟩) x2.length x2.length)).set (p := ⟨w.heap.size + 1, 0, none⟩) (by simp only [Btw]; omega) (.int .i64 x0)).set (p := ⟨w.heap.size + 1, 1, none⟩) (by simp only [Btw]; omega) (.slice (some ⟨g1, 0, none⟩) x1.length x1.length)).set (p := ⟨w.heap.size + 1, 2, none⟩) (by simp only [Btw]; omega) (.slice (some ⟨g2, 0, none⟩) x2.length x2.length))
  rw [← hW]
  clear hW
  have r0 := HF.out.2.1.cell 0 rfl
  have r1 := HF.out.2.1.cell 1 rfl
  have r2 := HF.out.2.1.cell 2 rfl
  have hzz := HF.out.2.2
  exact bodyPost_ret (v := .agg #[.int .i64 x0, .slice (some ⟨g1, 0, none⟩) x1.length x1.length, .slice (some ⟨g2, 0, none⟩) x2.length x2.length]) (by simp [results, Try.results29, go_sem, r0, r1, r2]) rfl ⟨_, rfl, mkown_Register O1.out O2.out (fun k hk => by simp only [Btw] at hk ⊢; omega) (fun k hk => by simp only [Btw] at hk ⊢; omega) (fun k e f => by simp only [Btw] at e f; omega), HF.out.1⟩
set_option maxRecDepth 100000 in
set_option maxHeartbeats 4000000 in
theorem toRegStep_n (cs : List Value) (x0 : Bool) (x1 : Int) (x2 : Bool) (x3 : ByteArray) (x4 : Int) (x5 : Int) (w : World) (hz : szD shRegStep (x0, x1, x2, x3, x4, x5, ()) ≤ 1073741824) (h : Lies w shRegStep cs (x0, x1, x2, x3, x4, x5, ())) :
    Calls Try.prog 31 #[.agg cs.toArray] w (ToP shRegStep (x0, x1, x2, x3, x4, x5, ()) w) := by
  obtain rfl := lies_RegStep h
  clear h hz
  go_enter Try.func31, Try.ntmps31
  go_wp2
  exact bodyPost_ret (v := .agg #[.bool x0, .int .i64 x1, .bool x2, .string x3, .int .i64 x4, .int .i64 x5]) (by simp [results, Try.results31, go_sem]) rfl ⟨_, rfl, mkown_RegStep, (by repeat (first | refine Below.setCell ?_ (by (try simp) <;> omega) _ | refine Below.alloc ?_ (by (try simp) <;> omega) _ | refine Below.drew ?_ | assumption | exact Below.refl _ _ | refine Below.trans ?_ (Below.mono (by assumption) (by (try simp) <;> omega))))⟩
end Go.Proofs.Ytaofolbnommpgaa
