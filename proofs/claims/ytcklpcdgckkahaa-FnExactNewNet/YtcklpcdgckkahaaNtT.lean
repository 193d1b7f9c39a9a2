/- The law's own functions that make the program's data of its own. Written by tools/nest.py. -/
import Derived.Test.YtcklpcdgckkahaaNtS
import Derived.Test.YtcklpcdgckkahaaProg
import Derived.Test.YtcklpcdgckkahaaBx
import Derived.WalkKit
import Derived.WalkSpells
import Derived.WalkLawsBesides
import Derived.Test.YtcklpcdgckkahaaShP
namespace Go.Proofs.Ytcklpcdgckkahaa
open Go.RowKit
set_option linter.unusedVariables false
set_option linter.unusedSimpArgs false

theorem inf_int : (Try.prog.info? 3).map (fun i => (i.zero, i.size, i.bytes)) = some (some (.int .i64 0), 1, 8) := by kernel_rfl
theorem inf_Parcel : (Try.prog.info? 85).map (fun i => (i.zero, i.size, i.bytes)) = some (some (.agg #[.bool false, .int .i64 0]), 2, 16) := by kernel_rfl
theorem inf_Bank : (Try.prog.info? 80).map (fun i => (i.zero, i.size, i.bytes)) = some (some (.agg #[.int .i64 0, .bool false, .int .i64 0]), 3, 24) := by kernel_rfl
theorem inf_Way : (Try.prog.info? 83).map (fun i => (i.zero, i.size, i.bytes)) = some (some (.agg #[.int .i64 0, .int .i64 0, .slice none 0 0, .bool false, .slice none 0 0]), 5, 72) := by kernel_rfl
theorem inf_BankStep : (Try.prog.info? 44).map (fun i => (i.zero, i.size, i.bytes)) = some (some (.agg #[.int .i64 0, .int .i64 0, .int .i64 0, .int .i64 0]), 4, 32) := by kernel_rfl
set_option maxRecDepth 100000 in
set_option maxHeartbeats 4000000 in
theorem toIntS_n (a : Option Addr) (cap : Nat) (x : List (Sh.T .int)) (w : World) (hz : szD (.list .int) x ≤ 1073741824) (h : Lies w (.list .int) [.slice a x.length cap] x) :
    Calls Try.prog 28 #[.slice a x.length cap] w (ToL .int x w) := by
  have HL : Hid (Lies w (.list .int) [.slice a x.length cap] x ∧ szD (.list .int) x ≤ 1073741824) := ⟨h, hz⟩
  have hn : x.length ≤ 1073741824 := by simp only [szD] at hz; omega
  clear h hz
  obtain ⟨n, hnn⟩ : ∃ n, n = x.length := ⟨_, rfl⟩
  have HN : Hid (n = x.length) := hnn
  rw [← hnn] at hn ⊢
  clear hnn
  obtain ⟨i0, hi, hz0, hz1, hz2⟩ := info_parts inf_int
  go_enter Try.func28, Try.ntmps28
  go_wp2_with (at_make; refine wpList_make_full _ rfl (.tmp 6) (.tmp 6) 23 rfl w.heap.size 3 i0 (.int .i64 0) 1 Try.underlying23 hi hz0 hz1 .i64 .i64 _ _ n rfl rfl rfl rfl (by rw [hz2]; omega) (by unfold maxLen; omega) (Nat.le_refl _) ?_; intro w1 hown hgrow)
  have hR := room_made hown
  have hB : Below w.heap.size w w1 := (Below.refl _ _).grown hgrow (Nat.le_refl _) (fun k hk => by cases hk)
  have hG : w.heap.size < w1.heap.size := by
    obtain ⟨_, h | ⟨g', cap', cur, hv, hb, hh, _⟩⟩ := hown
    · exact absurd h.1 (by simp)
    · simp only [Value.slice.injEq, Option.some.injEq, Addr.mk.injEq, and_true, true_and] at hv
      obtain ⟨rfl, rfl⟩ := hv
      rcases Nat.lt_or_ge w.heap.size w1.heap.size with h | h
      · exact h
      · rw [Array.getElem?_eq_none h] at hh; cases hh
  have HI : Hid (OwnK w1 .int w.heap.size n 0 x (Btw w.heap.size w1.heap.size) (fun _ _ => False) ∧ Below w.heap.size w w1) := ⟨⟨hG, ⟨Nat.le_refl _, hG⟩, fun i hi => absurd hi (by omega), fun i j _ hj => absurd hj (by omega), hR, fun i _ hi => absurd hi (by omega)⟩, hB⟩
  clear hown hgrow hi hz0 hz1 hz2 hR hB hG
  go_loopw [4] (fun i wr => ∃ (k : Nat) (B : Nat → Nat → Prop), k ≤ n ∧ i = .int .i64 k ∧ OwnK wr .int w.heap.size n k x (Btw w.heap.size wr.heap.size) B ∧ Below w.heap.size w wr) (fun i _ => n - (intOf i).toNat)
  case atStart => exact ⟨0, _, Nat.zero_le _, rfl, HI.out⟩
  case round =>
    obtain ⟨k, B, hk, rfl, hO, hBr⟩ := hrel
    clear HI
    have HH : Hid (OwnK wr .int w.heap.size n k x (Btw w.heap.size wr.heap.size) B ∧ Below w.heap.size w wr) := ⟨hO, hBr⟩
    clear hO
    by_cases hlt : k < n
    · have hlx : k < x.length := by have := HN.out; omega
      obtain ⟨g, off, hgo, hgs, ec, hel, hec, hle⟩ := Lies.elem (HL.out.1.next hBr) hlx
      subst hgo
      have hlt' : (k : Int) < (n : Int) := by omega
      have HS : Hid (szD .int x[k] ≤ 1073741824) := Hid.intro (by have := sz_mem (List.getElem_mem hlx); have := HL.out.2; omega)
      have hev : ec = [.int .i64 x[k]] := hle
      subst hev
      have c0 : wr.cell? ⟨g, off + k, none⟩ = some (.int .i64 x[k]) := by have := hec 0 (by simp); simpa [Sh.c] using this
      have hrm := HH.out.1.2.2.2.2.1
      obtain ⟨⟨y0, r0⟩, f0⟩ := hrm k (by simp [Sh.c]; omega)
      have z0 := HH.out.1.1
      have hw : put wr w.heap.size (k * Sh.c .int) [.int .i64 x[k]] = wr.setCell ⟨w.heap.size, k, none⟩ (.int .i64 x[k]) := by simp [put, Sh.c]
      have hm := HH.out.1.more (S' := Btw w.heap.size wr.heap.size) (Sk := fun _ => False) (ec := [.int .i64 x[k]]) hlt hlx rfl rfl (fun b hb => hb) (fun b hb => hb.elim)
      rw [hw] at hm
      have HF : Hid (OwnK (wr.setCell ⟨w.heap.size, k, none⟩ (.int .i64 x[k])) .int w.heap.size n (k + 1) x (Btw w.heap.size (wr.setCell ⟨w.heap.size, k, none⟩ (.int .i64 x[k])).heap.size) (fun i => if i = k then (fun _ => False) else B i) ∧ Below w.heap.size w (wr.setCell ⟨w.heap.size, k, none⟩ (.int .i64 x[k]))) := ⟨by simpa using hm, HH.out.2.setCell (p := ⟨w.heap.size, k, none⟩) (Nat.le_refl _) _⟩
      clear hec hle hel hBr HH hrm hm hw
      generalize x[k] = xk at *
      go_wp2
      go_roundw
      case rel => exact ⟨k + 1, _, by omega, by go_num, HF.out⟩
      case measure => simp [intOf]; omega
    · have hkn : k = n := by omega
      subst hkn
      have HP : Hid (ToL .int x w (.returned (.slice (some ⟨w.heap.size, 0, none⟩) k k)) wr) := by
        have e := HN.out
        have h1 := HH.out.1
        refine ⟨w.heap.size, by rw [e], ?_, HH.out.2⟩
        rw [e] at h1
        exact h1.list (Nat.le_refl _) (by unfold maxLen; omega)
      clear HH hBr
      go_wp2
      go_ret
      exact HP.out
set_option maxRecDepth 100000 in
set_option maxHeartbeats 4000000 in
theorem toParcel_n (cs : List Value) (x0 : Bool) (x1 : Int) (w : World) (hz : szD shParcel (x0, x1, ()) ≤ 1073741824) (h : Lies w shParcel cs (x0, x1, ())) :
    Calls Try.prog 112 #[.agg cs.toArray] w (ToP shParcel (x0, x1, ()) w) := by
  obtain rfl := lies_Parcel h
  clear h hz
  go_enter Try.func112, Try.ntmps112
  go_wp2
  exact bodyPost_ret (v := .agg #[.bool x0, .int .i64 x1]) (by simp [results, Try.results112, go_sem]) rfl ⟨_, rfl, mkown_Parcel, (by repeat (first | refine Below.setCell ?_ (by (try simp) <;> omega) _ | refine Below.alloc ?_ (by (try simp) <;> omega) _ | refine Below.drew ?_ | assumption | exact Below.refl _ _ | refine Below.trans ?_ (Below.mono (by assumption) (by (try simp) <;> omega))))⟩
set_option maxRecDepth 100000 in
set_option maxHeartbeats 4000000 in
theorem toParcelS_n (a : Option Addr) (cap : Nat) (x : List (Sh.T shParcel)) (w : World) (hz : szD (.list shParcel) x ≤ 1073741824) (h : Lies w (.list shParcel) [.slice a x.length cap] x) :
    Calls Try.prog 110 #[.slice a x.length cap] w (ToL shParcel x w) := by
  have HL : Hid (Lies w (.list shParcel) [.slice a x.length cap] x ∧ szD (.list shParcel) x ≤ 1073741824) := ⟨h, hz⟩
  have hn : x.length ≤ 1073741824 := by simp only [szD] at hz; omega
  clear h hz
  obtain ⟨n, hnn⟩ : ∃ n, n = x.length := ⟨_, rfl⟩
  have HN : Hid (n = x.length) := hnn
  rw [← hnn] at hn ⊢
  clear hnn
  obtain ⟨i0, hi, hz0, hz1, hz2⟩ := info_parts inf_Parcel
  go_enter Try.func110, Try.ntmps110
  go_wp2_with (at_make; refine wpList_make_full _ rfl (.tmp 6) (.tmp 6) 81 rfl w.heap.size 85 i0 (.agg #[.bool false, .int .i64 0]) 2 Try.underlying81 hi hz0 hz1 .i64 .i64 _ _ n rfl rfl rfl rfl (by rw [hz2]; omega) (by unfold maxLen; omega) (Nat.le_refl _) ?_; intro w1 hown hgrow)
  have hR := room_made hown
  have hB : Below w.heap.size w w1 := (Below.refl _ _).grown hgrow (Nat.le_refl _) (fun k hk => by cases hk)
  have hG : w.heap.size < w1.heap.size := by
    obtain ⟨_, h | ⟨g', cap', cur, hv, hb, hh, _⟩⟩ := hown
    · exact absurd h.1 (by simp)
    · simp only [Value.slice.injEq, Option.some.injEq, Addr.mk.injEq, and_true, true_and] at hv
      obtain ⟨rfl, rfl⟩ := hv
      rcases Nat.lt_or_ge w.heap.size w1.heap.size with h | h
      · exact h
      · rw [Array.getElem?_eq_none h] at hh; cases hh
  have HI : Hid (OwnK w1 shParcel w.heap.size n 0 x (Btw w.heap.size w1.heap.size) (fun _ _ => False) ∧ Below w.heap.size w w1) := ⟨⟨hG, ⟨Nat.le_refl _, hG⟩, fun i hi => absurd hi (by omega), fun i j _ hj => absurd hj (by omega), hR, fun i _ hi => absurd hi (by omega)⟩, hB⟩
  clear hown hgrow hi hz0 hz1 hz2 hR hB hG
  go_loopw [4] (fun i wr => ∃ (k : Nat) (B : Nat → Nat → Prop), k ≤ n ∧ i = .int .i64 k ∧ OwnK wr shParcel w.heap.size n k x (Btw w.heap.size wr.heap.size) B ∧ Below w.heap.size w wr) (fun i _ => n - (intOf i).toNat)
  case atStart => exact ⟨0, _, Nat.zero_le _, rfl, HI.out⟩
  case round =>
    obtain ⟨k, B, hk, rfl, hO, hBr⟩ := hrel
    clear HI
    have HH : Hid (OwnK wr shParcel w.heap.size n k x (Btw w.heap.size wr.heap.size) B ∧ Below w.heap.size w wr) := ⟨hO, hBr⟩
    clear hO
    by_cases hlt : k < n
    · have hlx : k < x.length := by have := HN.out; omega
      obtain ⟨g, off, hgo, hgs, ec, hel, hec, hle⟩ := Lies.elem (HL.out.1.next hBr) hlx
      subst hgo
      have hlt' : (k : Int) < (n : Int) := by omega
      have HS : Hid (szD shParcel x[k] ≤ 1073741824) := Hid.intro (by have := sz_mem (List.getElem_mem hlx); have := HL.out.2; omega)
      have HCS : Hid (Lies wr shParcel ec x[k]) := hle
      obtain ⟨v0, v1, hev⟩ := list_of2 hel
      subst hev
      have c0 : wr.cell? ⟨g, off + k * 2, none⟩ = some v0 := hec 0 (by simp)
      have c1 : wr.cell? ⟨g, off + k * 2 + 1, none⟩ = some v1 := hec 1 (by simp)
      clear hec hel hBr hle
      go_wp2_with fail
      refine (toParcel_n [v0, v1] x[k].1 x[k].2.1 _ HS.out HCS.out).mono ?_
      rintro r w2 ⟨cs2, rfl, ho, hb⟩
      obtain hev := own_Parcel (x0 := x[k].1) (x1 := x[k].2.1) ho
      subst hev
      have h2 := HH.out.1.next hb
      have hm := h2.more (S' := Btw w.heap.size w2.heap.size) (Sk := Btw wr.heap.size w2.heap.size) (ec := [.bool x[k].1, .int .i64 x[k].2.1]) hlt hlx rfl ho (fun b hb2 => ⟨hb2.1, Nat.lt_of_lt_of_le hb2.2 hb.size⟩) (fun b hb2 => ⟨⟨Nat.le_trans HH.out.2.size hb2.1, hb2.2⟩, fun q => Nat.lt_irrefl _ (Nat.lt_of_lt_of_le q.2 hb2.1)⟩)
      have hB2 : Below w.heap.size w w2 := HH.out.2.trans (hb.mono HH.out.2.size)
      have HF : Hid (OwnK (put w2 w.heap.size (k * 2) [.bool x[k].1, .int .i64 x[k].2.1]) shParcel w.heap.size n (k + 1) x (Btw w.heap.size (put w2 w.heap.size (k * 2) [.bool x[k].1, .int .i64 x[k].2.1]).heap.size) (fun i => if i = k then Btw wr.heap.size w2.heap.size else B i) ∧ Below w.heap.size w (put w2 w.heap.size (k * 2) [.bool x[k].1, .int .i64 x[k].2.1])) := ⟨by rw [put_size]; exact hm, put_below (Nat.le_refl _) _ _ _ _ hB2⟩
      have hrm : Room w2 w.heap.size (n * 2) := h2.2.2.2.2.1
      obtain ⟨⟨y0, r0⟩, f0⟩ := hrm (k * 2) (by omega)
      obtain ⟨⟨y1, r1⟩, f1⟩ := hrm (k * 2 + 1) (by omega)
      have z2 := h2.1
      clear h2 hm hB2 hb ho hrm HH HCS c0 c1
      go_wp2
      go_roundw
      case rel => exact ⟨k + 1, _, by omega, by go_num, HF.out⟩
      case measure => simp [intOf]; omega
    · have hkn : k = n := by omega
      subst hkn
      have HP : Hid (ToL shParcel x w (.returned (.slice (some ⟨w.heap.size, 0, none⟩) k k)) wr) := by
        have e := HN.out
        have h1 := HH.out.1
        refine ⟨w.heap.size, by rw [e], ?_, HH.out.2⟩
        rw [e] at h1
        exact h1.list (Nat.le_refl _) (by unfold maxLen; omega)
      clear HH hBr
      go_wp2
      go_ret
      exact HP.out
set_option maxRecDepth 100000 in
set_option maxHeartbeats 4000000 in
theorem toBank_n (cs : List Value) (x0 : Int) (x1 : Bool) (x2 : Int) (w : World) (hz : szD shBank (x0, x1, x2, ()) ≤ 1073741824) (h : Lies w shBank cs (x0, x1, x2, ())) :
    Calls Try.prog 96 #[.agg cs.toArray] w (ToP shBank (x0, x1, x2, ()) w) := by
  obtain rfl := lies_Bank h
  clear h hz
  go_enter Try.func96, Try.ntmps96
  go_wp2
  exact bodyPost_ret (v := .agg #[.int .i64 x0, .bool x1, .int .i64 x2]) (by simp [results, Try.results96, go_sem]) rfl ⟨_, rfl, mkown_Bank, (by repeat (first | refine Below.setCell ?_ (by (try simp) <;> omega) _ | refine Below.alloc ?_ (by (try simp) <;> omega) _ | refine Below.drew ?_ | assumption | exact Below.refl _ _ | refine Below.trans ?_ (Below.mono (by assumption) (by (try simp) <;> omega))))⟩
set_option maxRecDepth 100000 in
set_option maxHeartbeats 4000000 in
theorem toBankS_n (a : Option Addr) (cap : Nat) (x : List (Sh.T shBank)) (w : World) (hz : szD (.list shBank) x ≤ 1073741824) (h : Lies w (.list shBank) [.slice a x.length cap] x) :
    Calls Try.prog 73 #[.slice a x.length cap] w (ToL shBank x w) := by
  have HL : Hid (Lies w (.list shBank) [.slice a x.length cap] x ∧ szD (.list shBank) x ≤ 1073741824) := ⟨h, hz⟩
  have hn : x.length ≤ 1073741824 := by simp only [szD] at hz; omega
  clear h hz
  obtain ⟨n, hnn⟩ : ∃ n, n = x.length := ⟨_, rfl⟩
  have HN : Hid (n = x.length) := hnn
  rw [← hnn] at hn ⊢
  clear hnn
  obtain ⟨i0, hi, hz0, hz1, hz2⟩ := info_parts inf_Bank
  go_enter Try.func73, Try.ntmps73
  go_wp2_with (at_make; refine wpList_make_full _ rfl (.tmp 6) (.tmp 6) 27 rfl w.heap.size 80 i0 (.agg #[.int .i64 0, .bool false, .int .i64 0]) 3 Try.underlying27 hi hz0 hz1 .i64 .i64 _ _ n rfl rfl rfl rfl (by rw [hz2]; omega) (by unfold maxLen; omega) (Nat.le_refl _) ?_; intro w1 hown hgrow)
  have hR := room_made hown
  have hB : Below w.heap.size w w1 := (Below.refl _ _).grown hgrow (Nat.le_refl _) (fun k hk => by cases hk)
  have hG : w.heap.size < w1.heap.size := by
    obtain ⟨_, h | ⟨g', cap', cur, hv, hb, hh, _⟩⟩ := hown
    · exact absurd h.1 (by simp)
    · simp only [Value.slice.injEq, Option.some.injEq, Addr.mk.injEq, and_true, true_and] at hv
      obtain ⟨rfl, rfl⟩ := hv
      rcases Nat.lt_or_ge w.heap.size w1.heap.size with h | h
      · exact h
      · rw [Array.getElem?_eq_none h] at hh; cases hh
  have HI : Hid (OwnK w1 shBank w.heap.size n 0 x (Btw w.heap.size w1.heap.size) (fun _ _ => False) ∧ Below w.heap.size w w1) := ⟨⟨hG, ⟨Nat.le_refl _, hG⟩, fun i hi => absurd hi (by omega), fun i j _ hj => absurd hj (by omega), hR, fun i _ hi => absurd hi (by omega)⟩, hB⟩
  clear hown hgrow hi hz0 hz1 hz2 hR hB hG
  go_loopw [4] (fun i wr => ∃ (k : Nat) (B : Nat → Nat → Prop), k ≤ n ∧ i = .int .i64 k ∧ OwnK wr shBank w.heap.size n k x (Btw w.heap.size wr.heap.size) B ∧ Below w.heap.size w wr) (fun i _ => n - (intOf i).toNat)
  case atStart => exact ⟨0, _, Nat.zero_le _, rfl, HI.out⟩
  case round =>
    obtain ⟨k, B, hk, rfl, hO, hBr⟩ := hrel
    clear HI
    have HH : Hid (OwnK wr shBank w.heap.size n k x (Btw w.heap.size wr.heap.size) B ∧ Below w.heap.size w wr) := ⟨hO, hBr⟩
    clear hO
    by_cases hlt : k < n
    · have hlx : k < x.length := by have := HN.out; omega
      obtain ⟨g, off, hgo, hgs, ec, hel, hec, hle⟩ := Lies.elem (HL.out.1.next hBr) hlx
      subst hgo
      have hlt' : (k : Int) < (n : Int) := by omega
      have HS : Hid (szD shBank x[k] ≤ 1073741824) := Hid.intro (by have := sz_mem (List.getElem_mem hlx); have := HL.out.2; omega)
      have HCS : Hid (Lies wr shBank ec x[k]) := hle
      obtain ⟨v0, v1, v2, hev⟩ := list_of3 hel
      subst hev
      have c0 : wr.cell? ⟨g, off + k * 3, none⟩ = some v0 := hec 0 (by simp)
      have c1 : wr.cell? ⟨g, off + k * 3 + 1, none⟩ = some v1 := hec 1 (by simp)
      have c2 : wr.cell? ⟨g, off + k * 3 + 2, none⟩ = some v2 := hec 2 (by simp)
      clear hec hel hBr hle
      go_wp2_with fail
      refine (toBank_n [v0, v1, v2] x[k].1 x[k].2.1 x[k].2.2.1 _ HS.out HCS.out).mono ?_
      rintro r w2 ⟨cs2, rfl, ho, hb⟩
      obtain hev := own_Bank (x0 := x[k].1) (x1 := x[k].2.1) (x2 := x[k].2.2.1) ho
      subst hev
      have h2 := HH.out.1.next hb
      have hm := h2.more (S' := Btw w.heap.size w2.heap.size) (Sk := Btw wr.heap.size w2.heap.size) (ec := [.int .i64 x[k].1, .bool x[k].2.1, .int .i64 x[k].2.2.1]) hlt hlx rfl ho (fun b hb2 => ⟨hb2.1, Nat.lt_of_lt_of_le hb2.2 hb.size⟩) (fun b hb2 => ⟨⟨Nat.le_trans HH.out.2.size hb2.1, hb2.2⟩, fun q => Nat.lt_irrefl _ (Nat.lt_of_lt_of_le q.2 hb2.1)⟩)
      have hB2 : Below w.heap.size w w2 := HH.out.2.trans (hb.mono HH.out.2.size)
      have HF : Hid (OwnK (put w2 w.heap.size (k * 3) [.int .i64 x[k].1, .bool x[k].2.1, .int .i64 x[k].2.2.1]) shBank w.heap.size n (k + 1) x (Btw w.heap.size (put w2 w.heap.size (k * 3) [.int .i64 x[k].1, .bool x[k].2.1, .int .i64 x[k].2.2.1]).heap.size) (fun i => if i = k then Btw wr.heap.size w2.heap.size else B i) ∧ Below w.heap.size w (put w2 w.heap.size (k * 3) [.int .i64 x[k].1, .bool x[k].2.1, .int .i64 x[k].2.2.1])) := ⟨by rw [put_size]; exact hm, put_below (Nat.le_refl _) _ _ _ _ hB2⟩
      have hrm : Room w2 w.heap.size (n * 3) := h2.2.2.2.2.1
      obtain ⟨⟨y0, r0⟩, f0⟩ := hrm (k * 3) (by omega)
      obtain ⟨⟨y1, r1⟩, f1⟩ := hrm (k * 3 + 1) (by omega)
      obtain ⟨⟨y2, r2⟩, f2⟩ := hrm (k * 3 + 2) (by omega)
      have z2 := h2.1
      clear h2 hm hB2 hb ho hrm HH HCS c0 c1 c2
      go_wp2
      go_roundw
      case rel => exact ⟨k + 1, _, by omega, by go_num, HF.out⟩
      case measure => simp [intOf]; omega
    · have hkn : k = n := by omega
      subst hkn
      have HP : Hid (ToL shBank x w (.returned (.slice (some ⟨w.heap.size, 0, none⟩) k k)) wr) := by
        have e := HN.out
        have h1 := HH.out.1
        refine ⟨w.heap.size, by rw [e], ?_, HH.out.2⟩
        rw [e] at h1
        exact h1.list (Nat.le_refl _) (by unfold maxLen; omega)
      clear HH hBr
      go_wp2
      go_ret
      exact HP.out
set_option maxRecDepth 100000 in
set_option maxHeartbeats 4000000 in
theorem toWay_n (cs : List Value) (x0 : Int) (x1 : Int) (x2 : List (Sh.T shParcel)) (x3 : Bool) (x4 : List (Sh.T .int)) (w : World) (hz : szD shWay (x0, x1, x2, x3, x4, ()) ≤ 1073741824) (h : Lies w shWay cs (x0, x1, x2, x3, x4, ())) :
    Calls Try.prog 97 #[.agg cs.toArray] w (ToP shWay (x0, x1, x2, x3, x4, ()) w) := by
  obtain ⟨a1, k1, a2, k2, rfl, h1, h2⟩ := lies_Way h
  have HE : Hid (szD shWay (x0, x1, x2, x3, x4, ()) = (0 + (0 + (szD (.list shParcel) x2 + (0 + (szD (.list .int) x4 + 0)))))) := rfl
  have HZ : Hid (szD shWay (x0, x1, x2, x3, x4, ()) ≤ 1073741824) := hz
  have HL : Hid (True ∧ Lies w (.list shParcel) [.slice a1 x2.length k1] x2 ∧ Lies w (.list .int) [.slice a2 x4.length k2] x4) := ⟨trivial, h1, h2⟩
  clear h hz h1 h2
  go_enter Try.func97, Try.ntmps97
  go_wp2_with fail
  obtain ⟨W0, hW⟩ : ∃ x, x = ((w.alloc (.cells #[.int .i64 x0, .int .i64 x1, .slice a1 x2.length k1, .bool x3, .slice a2 x4.length k2] 124)).alloc (.cells #[.int .i64 0, .int .i64 0, .slice none 0 0, .bool false, .slice none 0 0] 83)).alloc (.cells #[.int .i64 x0, .int .i64 x1, .slice none 0 0, .bool false, .slice none 0 0] 83) := ⟨_, rfl⟩
  have HB0 : Hid (Below w.heap.size w W0 ∧ Bx W0 w.heap.size [.int .i64 x0, .int .i64 x1, .slice a1 x2.length k1, .bool x3, .slice a2 x4.length k2] ∧ Bx W0 (w.heap.size + 1) [.int .i64 0, .int .i64 0, .slice none 0 0, .bool false, .slice none 0 0] ∧ Bx W0 (w.heap.size + 1 + 1) [.int .i64 x0, .int .i64 x1, .slice none 0 0, .bool false, .slice none 0 0] ∧ W0.heap.size = w.heap.size + 1 + 1 + 1) := hW ▸ ⟨(((Below.refl _ _).alloc (Nat.le_refl _) _).alloc (by simp) _).alloc (by simp; omega) _, ((Bx.new w [.int .i64 x0, .int .i64 x1, .slice a1 x2.length k1, .bool x3, .slice a2 x4.length k2] _).alloc _).alloc _, (Bx.newAt (by simp)).alloc _, Bx.newAt (by simp), by simp⟩
  rw [← hW]
  clear hW
  refine (toParcelS_n _ _ x2 W0 (by have := HZ.out; rw [HE.out] at this; omega) (HL.out.2.1.next HB0.out.1)).mono ?_
  rintro r w1 ⟨g1, rfl, ho, hb⟩
  have O1 : Hid (Own w1 (.list shParcel) [.slice (some ⟨g1, 0, none⟩) x2.length x2.length] x2 (Btw W0.heap.size w1.heap.size)) := ho
  clear ho
  have HC1 : Hid (Below w.heap.size w w1 ∧ Bx w1 w.heap.size [.int .i64 x0, .int .i64 x1, .slice a1 x2.length k1, .bool x3, .slice a2 x4.length k2] ∧ Bx w1 (w.heap.size + 1) [.int .i64 0, .int .i64 0, .slice none 0 0, .bool false, .slice none 0 0] ∧ Bx w1 (w.heap.size + 1 + 1) [.int .i64 x0, .int .i64 x1, .slice none 0 0, .bool false, .slice none 0 0]) := ⟨HB0.out.1.trans (hb.mono HB0.out.1.size), HB0.out.2.1.next hb, HB0.out.2.2.1.next hb, HB0.out.2.2.2.1.next hb⟩
  have hs1 : W0.heap.size ≤ w1.heap.size := hb.size
  have ht1 := HB0.out.2.2.2.2
  clear hb HB0
  have d0 := HC1.out.2.1.cell 0 rfl
  have d1 := HC1.out.2.1.cell 1 rfl
  have d2 := HC1.out.2.1.cell 2 rfl
  have d3 := HC1.out.2.1.cell 3 rfl
  have d4 := HC1.out.2.1.cell 4 rfl
  have dz := HC1.out.2.1.2
  have e0 := HC1.out.2.2.2.cell 0 rfl
  have f0 := HC1.out.2.2.2.frz 0 (by simp)
  have y0 := HC1.out.2.2.1.cell 0 rfl
  have v0 := HC1.out.2.2.1.frz 0 (by simp)
  have e1 := HC1.out.2.2.2.cell 1 rfl
  have f1 := HC1.out.2.2.2.frz 1 (by simp)
  have y1 := HC1.out.2.2.1.cell 1 rfl
  have v1 := HC1.out.2.2.1.frz 1 (by simp)
  have e2 := HC1.out.2.2.2.cell 2 rfl
  have f2 := HC1.out.2.2.2.frz 2 (by simp)
  have y2 := HC1.out.2.2.1.cell 2 rfl
  have v2 := HC1.out.2.2.1.frz 2 (by simp)
  have e3 := HC1.out.2.2.2.cell 3 rfl
  have f3 := HC1.out.2.2.2.frz 3 (by simp)
  have y3 := HC1.out.2.2.1.cell 3 rfl
  have v3 := HC1.out.2.2.1.frz 3 (by simp)
  have e4 := HC1.out.2.2.2.cell 4 rfl
  have f4 := HC1.out.2.2.2.frz 4 (by simp)
  have y4 := HC1.out.2.2.1.cell 4 rfl
  have v4 := HC1.out.2.2.1.frz 4 (by simp)
  have ez := HC1.out.2.2.2.2
  have yz := HC1.out.2.2.1.2
  go_wp2_with fail
  obtain ⟨W1, hW⟩ : ∃ x, x = ((w1.setCell ⟨w.heap.size + 1 + 1, 2, none⟩ (.slice (some ⟨g1, 0, none⟩) x2.length x2.length)).setCell ⟨w.heap.size + 1 + 1, 3, none⟩ (.bool x3)) := ⟨_, rfl⟩
  have HB1 : Hid (Below w.heap.size w W1 ∧ Bx W1 w.heap.size [.int .i64 x0, .int .i64 x1, .slice a1 x2.length k1, .bool x3, .slice a2 x4.length k2] ∧ Bx W1 (w.heap.size + 1) [.int .i64 0, .int .i64 0, .slice none 0 0, .bool false, .slice none 0 0] ∧ Bx W1 (w.heap.size + 1 + 1) [.int .i64 x0, .int .i64 x1, .slice (some ⟨g1, 0, none⟩) x2.length x2.length, .bool x3, .slice none 0 0] ∧ W1.heap.size = w1.heap.size) := hW ▸ ⟨((HC1.out.1.setCell (p := ⟨w.heap.size + 1 + 1, 2, none⟩) (by simp; omega) (.slice (some ⟨g1, 0, none⟩) x2.length x2.length)).setCell (p := ⟨w.heap.size + 1 + 1, 3, none⟩) (by simp; omega) (.bool x3)), ((HC1.out.2.1.other (by omega)).other (by omega)), ((HC1.out.2.2.1.other (by omega)).other (by omega)), ((HC1.out.2.2.2.set (k := 2) (by simp) (.slice (some ⟨g1, 0, none⟩) x2.length x2.length)).set (k := 3) (by simp) (.bool x3)), by simp⟩
  have O1 : Hid (Own W1 (.list shParcel) [.slice (some ⟨g1, 0, none⟩) x2.length x2.length] x2 (Btw W0.heap.size w1.heap.size)) := hW ▸ ((O1.out.set (p := ⟨w.heap.size + 1 + 1, 2, none⟩) (by simp only [Btw]; omega) (.slice (some ⟨g1, 0, none⟩) x2.length x2.length)).set (p := ⟨w.heap.size + 1 + 1, 3, none⟩) (by simp only [Btw]; omega) (.bool x3))
  rw [← hW]
  clear hW HC1 e0 f0 e1 f1 e2 f2 e3 f3 e4 f4 ez d0 d1 d2 d3 d4 dz y0 v0 y1 v1 y2 v2 y3 v3 y4 v4 yz
  refine (toIntS_n _ _ x4 W1 (by have := HZ.out; rw [HE.out] at this; omega) (HL.out.2.2.next HB1.out.1)).mono ?_
  rintro r w2 ⟨g2, rfl, ho, hb⟩
  have O2 : Hid (Own w2 (.list .int) [.slice (some ⟨g2, 0, none⟩) x4.length x4.length] x4 (Btw W1.heap.size w2.heap.size)) := ho
  clear ho
  have O1 : Hid (Own w2 (.list shParcel) [.slice (some ⟨g1, 0, none⟩) x2.length x2.length] x2 (Btw W0.heap.size w1.heap.size)) := O1.out.next hb
  have HC2 : Hid (Below w.heap.size w w2 ∧ Bx w2 w.heap.size [.int .i64 x0, .int .i64 x1, .slice a1 x2.length k1, .bool x3, .slice a2 x4.length k2] ∧ Bx w2 (w.heap.size + 1) [.int .i64 0, .int .i64 0, .slice none 0 0, .bool false, .slice none 0 0] ∧ Bx w2 (w.heap.size + 1 + 1) [.int .i64 x0, .int .i64 x1, .slice (some ⟨g1, 0, none⟩) x2.length x2.length, .bool x3, .slice none 0 0]) := ⟨HB1.out.1.trans (hb.mono HB1.out.1.size), HB1.out.2.1.next hb, HB1.out.2.2.1.next hb, HB1.out.2.2.2.1.next hb⟩
  have hs2 : W1.heap.size ≤ w2.heap.size := hb.size
  have ht2 := HB1.out.2.2.2.2
  clear hb HB1
  have d0 := HC2.out.2.1.cell 0 rfl
  have d1 := HC2.out.2.1.cell 1 rfl
  have d2 := HC2.out.2.1.cell 2 rfl
  have d3 := HC2.out.2.1.cell 3 rfl
  have d4 := HC2.out.2.1.cell 4 rfl
  have dz := HC2.out.2.1.2
  have e0 := HC2.out.2.2.2.cell 0 rfl
  have f0 := HC2.out.2.2.2.frz 0 (by simp)
  have y0 := HC2.out.2.2.1.cell 0 rfl
  have v0 := HC2.out.2.2.1.frz 0 (by simp)
  have e1 := HC2.out.2.2.2.cell 1 rfl
  have f1 := HC2.out.2.2.2.frz 1 (by simp)
  have y1 := HC2.out.2.2.1.cell 1 rfl
  have v1 := HC2.out.2.2.1.frz 1 (by simp)
  have e2 := HC2.out.2.2.2.cell 2 rfl
  have f2 := HC2.out.2.2.2.frz 2 (by simp)
  have y2 := HC2.out.2.2.1.cell 2 rfl
  have v2 := HC2.out.2.2.1.frz 2 (by simp)
  have e3 := HC2.out.2.2.2.cell 3 rfl
  have f3 := HC2.out.2.2.2.frz 3 (by simp)
  have y3 := HC2.out.2.2.1.cell 3 rfl
  have v3 := HC2.out.2.2.1.frz 3 (by simp)
  have e4 := HC2.out.2.2.2.cell 4 rfl
  have f4 := HC2.out.2.2.2.frz 4 (by simp)
  have y4 := HC2.out.2.2.1.cell 4 rfl
  have v4 := HC2.out.2.2.1.frz 4 (by simp)
  have ez := HC2.out.2.2.2.2
  have yz := HC2.out.2.2.1.2
  go_wp2
  obtain ⟨WE, hW⟩ : ∃ x, x = ((((((w2.setCell ⟨w.heap.size + 1 + 1, 4, none⟩ (.slice (some ⟨g2, 0, none⟩) x4.length x4.length)).setCell ⟨w.heap.size + 1, 0, none⟩ (.int .i64 x0)).setCell ⟨w.heap.size + 1, 1, none⟩ (.int .i64 x1)).setCell ⟨w.heap.size + 1, 2, none⟩ (.slice (some ⟨g1, 0, none⟩) x2.length x2.length)).setCell ⟨w.heap.size + 1, 3, none⟩ (.bool x3)).setCell ⟨w.heap.size + 1, 4, none⟩ (.slice (some ⟨g2, 0, none⟩) x4.length x4.length)) := ⟨_, rfl⟩
  have HF : Hid (Below w.heap.size w WE ∧ Bx WE (w.heap.size + 1) [.int .i64 x0, .int .i64 x1, .slice (some ⟨g1, 0, none⟩) x2.length x2.length, .bool x3, .slice (some ⟨g2, 0, none⟩) x4.length x4.length] ∧ WE.heap.size = w2.heap.size) := hW ▸ ⟨((((((HC2.out.1.setCell (p := ⟨w.heap.size + 1 + 1, 4, none⟩) (by simp; omega) (.slice (some ⟨g2, 0, none⟩) x4.length x4.length)).setCell (p := ⟨w.heap.size + 1, 0, none⟩) (by simp) (.int .i64 x0)).setCell (p := ⟨w.heap.size + 1, 1, none⟩) (by simp) (.int .i64 x1)).setCell (p := ⟨w.heap.size + 1, 2, none⟩) (by simp) (.slice (some ⟨g1, 0, none⟩) x2.length x2.length)).setCell (p := ⟨w.heap.size + 1, 3, none⟩) (by simp) (.bool x3)).setCell (p := ⟨w.heap.size + 1, 4, none⟩) (by simp) (.slice (some ⟨g2, 0, none⟩) x4.length x4.length)), ((((((HC2.out.2.2.1.other (by omega)).set (k := 0) (by simp) (.int .i64 x0)).set (k := 1) (by simp) (.int .i64 x1)).set (k := 2) (by simp) (.slice (some ⟨g1, 0, none⟩) x2.length x2.length)).set (k := 3) (by simp) (.bool x3)).set (k := 4) (by simp) (.slice (some ⟨g2, 0, none⟩) x4.length x4.length)), by simp⟩
  have O1 : Hid (Own WE (.list shParcel) [.slice (some ⟨g1, 0, none⟩) x2.length x2.length] x2 (Btw W0.heap.size w1.heap.size)) := hW ▸ ((((((O1.out.set (p := ⟨w.heap.size + 1 + 1, 4, none⟩) (by simp only [Btw]; omega) (.slice (some ⟨g2, 0, none⟩) x4.length x4.length)).set (p := ⟨w.heap.size + 1, 0, none⟩) (by simp only [Btw]; omega) (.int .i64 x0)).set (p := ⟨w.heap.size + 1, 1, none⟩) (by simp only [Btw]; omega) (.int .i64 x1)).set (p := ⟨w.heap.size + 1, 2, none⟩) (by simp only [Btw]; omega) (.slice (some ⟨g1, 0, none⟩) x2.length x2.length)).set (p := ⟨w.heap.size + 1, 3, none⟩) (by simp only [Btw]; omega) (.bool x3)).set (p := ⟨w.heap.size + 1, 4, none⟩) (by simp only [Btw]; omega) (.slice (some ⟨g2, 0, none⟩) x4.length x4.length))
  have O2 : Hid (Own WE (.list .int) [.slice (some ⟨g2, 0, none⟩) x4.length x4.length] x4 (Btw W1.heap.size w2.heap.size)) := hW ▸ ((((((O2.out.set (p := ⟨w.heap.size + 1 + 1, 4, none⟩) (by simp only [Btw]; omega) (.slice (some ⟨g2, 0, none⟩) x4.length x4.length)).set (p := ⟨w.heap.size + 1, 0, none⟩) (by simp only [Btw]; omega) (.int .i64 x0)).set (p := ⟨w.heap.size + 1, 1, none⟩) (by simp only [Btw]; omega) (.int .i64 x1)).set (p := ⟨w.heap.size + 1, 2, none⟩) (by simp only [Btw]; omega) (.slice (some ⟨g1, 0, none⟩) x2.length x2.length)).set (p := ⟨w.heap.size + 1, 3, none⟩) (by simp only [Btw]; omega) (.bool x3)).set (p := ⟨w.heap.size + 1, 4, none⟩) (by simp only [Btw]; omega) (.slice (some ⟨g2, 0, none⟩) x4.length x4.length))
  rw [← hW]
  clear hW
  have r0 := HF.out.2.1.cell 0 rfl
  have r1 := HF.out.2.1.cell 1 rfl
  have r2 := HF.out.2.1.cell 2 rfl
  have r3 := HF.out.2.1.cell 3 rfl
  have r4 := HF.out.2.1.cell 4 rfl
  have hzz := HF.out.2.2
  exact bodyPost_ret (v := .agg #[.int .i64 x0, .int .i64 x1, .slice (some ⟨g1, 0, none⟩) x2.length x2.length, .bool x3, .slice (some ⟨g2, 0, none⟩) x4.length x4.length]) (by simp [results, Try.results97, go_sem, r0, r1, r2, r3, r4]) rfl ⟨_, rfl, mkown_Way O1.out O2.out (fun k hk => by simp only [Btw] at hk ⊢; omega) (fun k hk => by simp only [Btw] at hk ⊢; omega) (fun k e f => by simp only [Btw] at e f; omega), HF.out.1⟩
set_option maxRecDepth 100000 in
set_option maxHeartbeats 4000000 in
theorem toWayS_n (a : Option Addr) (cap : Nat) (x : List (Sh.T shWay)) (w : World) (hz : szD (.list shWay) x ≤ 1073741824) (h : Lies w (.list shWay) [.slice a x.length cap] x) :
    Calls Try.prog 74 #[.slice a x.length cap] w (ToL shWay x w) := by
  have HL : Hid (Lies w (.list shWay) [.slice a x.length cap] x ∧ szD (.list shWay) x ≤ 1073741824) := ⟨h, hz⟩
  have hn : x.length ≤ 1073741824 := by simp only [szD] at hz; omega
  clear h hz
  obtain ⟨n, hnn⟩ : ∃ n, n = x.length := ⟨_, rfl⟩
  have HN : Hid (n = x.length) := hnn
  rw [← hnn] at hn ⊢
  clear hnn
  obtain ⟨i0, hi, hz0, hz1, hz2⟩ := info_parts inf_Way
  go_enter Try.func74, Try.ntmps74
  go_wp2_with (at_make; refine wpList_make_full _ rfl (.tmp 6) (.tmp 6) 28 rfl w.heap.size 83 i0 (.agg #[.int .i64 0, .int .i64 0, .slice none 0 0, .bool false, .slice none 0 0]) 5 Try.underlying28 hi hz0 hz1 .i64 .i64 _ _ n rfl rfl rfl rfl (by rw [hz2]; omega) (by unfold maxLen; omega) (Nat.le_refl _) ?_; intro w1 hown hgrow)
  have hR := room_made hown
  have hB : Below w.heap.size w w1 := (Below.refl _ _).grown hgrow (Nat.le_refl _) (fun k hk => by cases hk)
  have hG : w.heap.size < w1.heap.size := by
    obtain ⟨_, h | ⟨g', cap', cur, hv, hb, hh, _⟩⟩ := hown
    · exact absurd h.1 (by simp)
    · simp only [Value.slice.injEq, Option.some.injEq, Addr.mk.injEq, and_true, true_and] at hv
      obtain ⟨rfl, rfl⟩ := hv
      rcases Nat.lt_or_ge w.heap.size w1.heap.size with h | h
      · exact h
      · rw [Array.getElem?_eq_none h] at hh; cases hh
  have HI : Hid (OwnK w1 shWay w.heap.size n 0 x (Btw w.heap.size w1.heap.size) (fun _ _ => False) ∧ Below w.heap.size w w1) := ⟨⟨hG, ⟨Nat.le_refl _, hG⟩, fun i hi => absurd hi (by omega), fun i j _ hj => absurd hj (by omega), hR, fun i _ hi => absurd hi (by omega)⟩, hB⟩
  clear hown hgrow hi hz0 hz1 hz2 hR hB hG
  go_loopw [4] (fun i wr => ∃ (k : Nat) (B : Nat → Nat → Prop), k ≤ n ∧ i = .int .i64 k ∧ OwnK wr shWay w.heap.size n k x (Btw w.heap.size wr.heap.size) B ∧ Below w.heap.size w wr) (fun i _ => n - (intOf i).toNat)
  case atStart => exact ⟨0, _, Nat.zero_le _, rfl, HI.out⟩
  case round =>
    obtain ⟨k, B, hk, rfl, hO, hBr⟩ := hrel
    clear HI
    have HH : Hid (OwnK wr shWay w.heap.size n k x (Btw w.heap.size wr.heap.size) B ∧ Below w.heap.size w wr) := ⟨hO, hBr⟩
    clear hO
    by_cases hlt : k < n
    · have hlx : k < x.length := by have := HN.out; omega
      obtain ⟨g, off, hgo, hgs, ec, hel, hec, hle⟩ := Lies.elem (HL.out.1.next hBr) hlx
      subst hgo
      have hlt' : (k : Int) < (n : Int) := by omega
      have HS : Hid (szD shWay x[k] ≤ 1073741824) := Hid.intro (by have := sz_mem (List.getElem_mem hlx); have := HL.out.2; omega)
      have HCS : Hid (Lies wr shWay ec x[k]) := hle
      obtain ⟨v0, v1, v2, v3, v4, hev⟩ := list_of5 hel
      subst hev
      have c0 : wr.cell? ⟨g, off + k * 5, none⟩ = some v0 := hec 0 (by simp)
      have c1 : wr.cell? ⟨g, off + k * 5 + 1, none⟩ = some v1 := hec 1 (by simp)
      have c2 : wr.cell? ⟨g, off + k * 5 + 2, none⟩ = some v2 := hec 2 (by simp)
      have c3 : wr.cell? ⟨g, off + k * 5 + 3, none⟩ = some v3 := hec 3 (by simp)
      have c4 : wr.cell? ⟨g, off + k * 5 + 4, none⟩ = some v4 := hec 4 (by simp)
      clear hec hel hBr hle
      go_wp2_with fail
      refine (toWay_n [v0, v1, v2, v3, v4] x[k].1 x[k].2.1 x[k].2.2.1 x[k].2.2.2.1 x[k].2.2.2.2.1 _ HS.out HCS.out).mono ?_
      rintro r w2 ⟨cs2, rfl, ho, hb⟩
      obtain ⟨p1, q1, _, p2, q2, _, hev, _⟩ := own_Way (x0 := x[k].1) (x1 := x[k].2.1) (x2 := x[k].2.2.1) (x3 := x[k].2.2.2.1) (x4 := x[k].2.2.2.2.1) ho
      subst hev
      have h2 := HH.out.1.next hb
      have hm := h2.more (S' := Btw w.heap.size w2.heap.size) (Sk := Btw wr.heap.size w2.heap.size) (ec := [.int .i64 x[k].1, .int .i64 x[k].2.1, .slice p1 x[k].2.2.1.length q1, .bool x[k].2.2.2.1, .slice p2 x[k].2.2.2.2.1.length q2]) hlt hlx rfl ho (fun b hb2 => ⟨hb2.1, Nat.lt_of_lt_of_le hb2.2 hb.size⟩) (fun b hb2 => ⟨⟨Nat.le_trans HH.out.2.size hb2.1, hb2.2⟩, fun q => Nat.lt_irrefl _ (Nat.lt_of_lt_of_le q.2 hb2.1)⟩)
      have hB2 : Below w.heap.size w w2 := HH.out.2.trans (hb.mono HH.out.2.size)
      have HF : Hid (OwnK (put w2 w.heap.size (k * 5) [.int .i64 x[k].1, .int .i64 x[k].2.1, .slice p1 x[k].2.2.1.length q1, .bool x[k].2.2.2.1, .slice p2 x[k].2.2.2.2.1.length q2]) shWay w.heap.size n (k + 1) x (Btw w.heap.size (put w2 w.heap.size (k * 5) [.int .i64 x[k].1, .int .i64 x[k].2.1, .slice p1 x[k].2.2.1.length q1, .bool x[k].2.2.2.1, .slice p2 x[k].2.2.2.2.1.length q2]).heap.size) (fun i => if i = k then Btw wr.heap.size w2.heap.size else B i) ∧ Below w.heap.size w (put w2 w.heap.size (k * 5) [.int .i64 x[k].1, .int .i64 x[k].2.1, .slice p1 x[k].2.2.1.length q1, .bool x[k].2.2.2.1, .slice p2 x[k].2.2.2.2.1.length q2])) := ⟨by rw [put_size]; exact hm, put_below (Nat.le_refl _) _ _ _ _ hB2⟩
      have hrm : Room w2 w.heap.size (n * 5) := h2.2.2.2.2.1
      obtain ⟨⟨y0, r0⟩, f0⟩ := hrm (k * 5) (by omega)
      obtain ⟨⟨y1, r1⟩, f1⟩ := hrm (k * 5 + 1) (by omega)
      obtain ⟨⟨y2, r2⟩, f2⟩ := hrm (k * 5 + 2) (by omega)
      obtain ⟨⟨y3, r3⟩, f3⟩ := hrm (k * 5 + 3) (by omega)
      obtain ⟨⟨y4, r4⟩, f4⟩ := hrm (k * 5 + 4) (by omega)
      have z2 := h2.1
      clear h2 hm hB2 hb ho hrm HH HCS c0 c1 c2 c3 c4
      go_wp2
      go_roundw
      case rel => exact ⟨k + 1, _, by omega, by go_num, HF.out⟩
      case measure => simp [intOf]; omega
    · have hkn : k = n := by omega
      subst hkn
      have HP : Hid (ToL shWay x w (.returned (.slice (some ⟨w.heap.size, 0, none⟩) k k)) wr) := by
        have e := HN.out
        have h1 := HH.out.1
        refine ⟨w.heap.size, by rw [e], ?_, HH.out.2⟩
        rw [e] at h1
        exact h1.list (Nat.le_refl _) (by unfold maxLen; omega)
      clear HH hBr
      go_wp2
      go_ret
      exact HP.out
set_option maxRecDepth 100000 in
set_option maxHeartbeats 4000000 in
theorem toNet_n (cs : List Value) (x0 : List (Sh.T shBank)) (x1 : List (Sh.T shWay)) (w : World) (hz : szD shNet (x0, x1, ()) ≤ 1073741824) (h : Lies w shNet cs (x0, x1, ())) :
    Calls Try.prog 36 #[.agg cs.toArray] w (ToP shNet (x0, x1, ()) w) := by
  obtain ⟨a1, k1, a2, k2, rfl, h1, h2⟩ := lies_Net h
  have HE : Hid (szD shNet (x0, x1, ()) = (szD (.list shBank) x0 + (szD (.list shWay) x1 + 0))) := rfl
  have HZ : Hid (szD shNet (x0, x1, ()) ≤ 1073741824) := hz
  have HL : Hid (True ∧ Lies w (.list shBank) [.slice a1 x0.length k1] x0 ∧ Lies w (.list shWay) [.slice a2 x1.length k2] x1) := ⟨trivial, h1, h2⟩
  clear h hz h1 h2
  go_enter Try.func36, Try.ntmps36
  go_wp2_with fail
  obtain ⟨W0, hW⟩ : ∃ x, x = ((w.alloc (.cells #[.slice a1 x0.length k1, .slice a2 x1.length k2] 58)).alloc (.cells #[.slice none 0 0, .slice none 0 0] 30)).alloc (.cells #[.slice none 0 0, .slice none 0 0] 30) := ⟨_, rfl⟩
  have HB0 : Hid (Below w.heap.size w W0 ∧ Bx W0 w.heap.size [.slice a1 x0.length k1, .slice a2 x1.length k2] ∧ Bx W0 (w.heap.size + 1) [.slice none 0 0, .slice none 0 0] ∧ Bx W0 (w.heap.size + 1 + 1) [.slice none 0 0, .slice none 0 0] ∧ W0.heap.size = w.heap.size + 1 + 1 + 1) := hW ▸ ⟨(((Below.refl _ _).alloc (Nat.le_refl _) _).alloc (by simp) _).alloc (by simp; omega) _, ((Bx.new w [.slice a1 x0.length k1, .slice a2 x1.length k2] _).alloc _).alloc _, (Bx.newAt (by simp)).alloc _, Bx.newAt (by simp), by simp⟩
  rw [← hW]
  clear hW
  refine (toBankS_n _ _ x0 W0 (by have := HZ.out; rw [HE.out] at this; omega) (HL.out.2.1.next HB0.out.1)).mono ?_
  rintro r w1 ⟨g1, rfl, ho, hb⟩
  have O1 : Hid (Own w1 (.list shBank) [.slice (some ⟨g1, 0, none⟩) x0.length x0.length] x0 (Btw W0.heap.size w1.heap.size)) := ho
  clear ho
  have HC1 : Hid (Below w.heap.size w w1 ∧ Bx w1 w.heap.size [.slice a1 x0.length k1, .slice a2 x1.length k2] ∧ Bx w1 (w.heap.size + 1) [.slice none 0 0, .slice none 0 0] ∧ Bx w1 (w.heap.size + 1 + 1) [.slice none 0 0, .slice none 0 0]) := ⟨HB0.out.1.trans (hb.mono HB0.out.1.size), HB0.out.2.1.next hb, HB0.out.2.2.1.next hb, HB0.out.2.2.2.1.next hb⟩
  have hs1 : W0.heap.size ≤ w1.heap.size := hb.size
  have ht1 := HB0.out.2.2.2.2
  clear hb HB0
  have d0 := HC1.out.2.1.cell 0 rfl
  have d1 := HC1.out.2.1.cell 1 rfl
  have dz := HC1.out.2.1.2
  have e0 := HC1.out.2.2.2.cell 0 rfl
  have f0 := HC1.out.2.2.2.frz 0 (by simp)
  have y0 := HC1.out.2.2.1.cell 0 rfl
  have v0 := HC1.out.2.2.1.frz 0 (by simp)
  have e1 := HC1.out.2.2.2.cell 1 rfl
  have f1 := HC1.out.2.2.2.frz 1 (by simp)
  have y1 := HC1.out.2.2.1.cell 1 rfl
  have v1 := HC1.out.2.2.1.frz 1 (by simp)
  have ez := HC1.out.2.2.2.2
  have yz := HC1.out.2.2.1.2
  go_wp2_with fail
  obtain ⟨W1, hW⟩ : ∃ x, x = (w1.setCell ⟨w.heap.size + 1 + 1, 0, none⟩ (.slice (some ⟨g1, 0, none⟩) x0.length x0.length)) := ⟨_, rfl⟩
  have HB1 : Hid (Below w.heap.size w W1 ∧ Bx W1 w.heap.size [.slice a1 x0.length k1, .slice a2 x1.length k2] ∧ Bx W1 (w.heap.size + 1) [.slice none 0 0, .slice none 0 0] ∧ Bx W1 (w.heap.size + 1 + 1) [.slice (some ⟨g1, 0, none⟩) x0.length x0.length, .slice none 0 0] ∧ W1.heap.size = w1.heap.size) := hW ▸ ⟨(HC1.out.1.setCell (p := ⟨w.heap.size + 1 + 1, 0, none⟩) (by simp; omega) (.slice (some ⟨g1, 0, none⟩) x0.length x0.length)), (HC1.out.2.1.other (by omega)), (HC1.out.2.2.1.other (by omega)), (HC1.out.2.2.2.set (k := 0) (by simp) (.slice (some ⟨g1, 0, none⟩) x0.length x0.length)), by simp⟩
  have O1 : Hid (Own W1 (.list shBank) [.slice (some ⟨g1, 0, none⟩) x0.length x0.length] x0 (Btw W0.heap.size w1.heap.size)) := hW ▸ (O1.out.set (p := ⟨w.heap.size + 1 + 1, 0, none⟩) (by simp only [Btw]; omega) (.slice (some ⟨g1, 0, none⟩) x0.length x0.length))
  rw [← hW]
  clear hW HC1 e0 f0 e1 f1 ez d0 d1 dz y0 v0 y1 v1 yz
  refine (toWayS_n _ _ x1 W1 (by have := HZ.out; rw [HE.out] at this; omega) (HL.out.2.2.next HB1.out.1)).mono ?_
  rintro r w2 ⟨g2, rfl, ho, hb⟩
  have O2 : Hid (Own w2 (.list shWay) [.slice (some ⟨g2, 0, none⟩) x1.length x1.length] x1 (Btw W1.heap.size w2.heap.size)) := ho
  clear ho
  have O1 : Hid (Own w2 (.list shBank) [.slice (some ⟨g1, 0, none⟩) x0.length x0.length] x0 (Btw W0.heap.size w1.heap.size)) := O1.out.next hb
  have HC2 : Hid (Below w.heap.size w w2 ∧ Bx w2 w.heap.size [.slice a1 x0.length k1, .slice a2 x1.length k2] ∧ Bx w2 (w.heap.size + 1) [.slice none 0 0, .slice none 0 0] ∧ Bx w2 (w.heap.size + 1 + 1) [.slice (some ⟨g1, 0, none⟩) x0.length x0.length, .slice none 0 0]) := ⟨HB1.out.1.trans (hb.mono HB1.out.1.size), HB1.out.2.1.next hb, HB1.out.2.2.1.next hb, HB1.out.2.2.2.1.next hb⟩
  have hs2 : W1.heap.size ≤ w2.heap.size := hb.size
  have ht2 := HB1.out.2.2.2.2
  clear hb HB1
  have d0 := HC2.out.2.1.cell 0 rfl
  have d1 := HC2.out.2.1.cell 1 rfl
  have dz := HC2.out.2.1.2
  have e0 := HC2.out.2.2.2.cell 0 rfl
  have f0 := HC2.out.2.2.2.frz 0 (by simp)
  have y0 := HC2.out.2.2.1.cell 0 rfl
  have v0 := HC2.out.2.2.1.frz 0 (by simp)
  have e1 := HC2.out.2.2.2.cell 1 rfl
  have f1 := HC2.out.2.2.2.frz 1 (by simp)
  have y1 := HC2.out.2.2.1.cell 1 rfl
  have v1 := HC2.out.2.2.1.frz 1 (by simp)
  have ez := HC2.out.2.2.2.2
  have yz := HC2.out.2.2.1.2
  go_wp2
  obtain ⟨WE, hW⟩ : ∃ x, x = (((w2.setCell ⟨w.heap.size + 1 + 1, 1, none⟩ (.slice (some ⟨g2, 0, none⟩) x1.length x1.length)).setCell ⟨w.heap.size + 1, 0, none⟩ (.slice (some ⟨g1, 0, none⟩) x0.length x0.length)).setCell ⟨w.heap.size + 1, 1, none⟩ (.slice (some ⟨g2, 0, none⟩) x1.length x1.length)) := ⟨_, rfl⟩
  have HF : Hid (Below w.heap.size w WE ∧ Bx WE (w.heap.size + 1) [.slice (some ⟨g1, 0, none⟩) x0.length x0.length, .slice (some ⟨g2, 0, none⟩) x1.length x1.length] ∧ WE.heap.size = w2.heap.size) := hW ▸ ⟨(((HC2.out.1.setCell (p := ⟨w.heap.size + 1 + 1, 1, none⟩) (by simp; omega) (.slice (some ⟨g2, 0, none⟩) x1.length x1.length)).setCell (p := ⟨w.heap.size + 1, 0, none⟩) (by simp) (.slice (some ⟨g1, 0, none⟩) x0.length x0.length)).setCell (p := ⟨w.heap.size + 1, 1, none⟩) (by simp) (.slice (some ⟨g2, 0, none⟩) x1.length x1.length)), (((HC2.out.2.2.1.other (by omega)).set (k := 0) (by simp) (.slice (some ⟨g1, 0, none⟩) x0.length x0.length)).set (k := 1) (by simp) (.slice (some ⟨g2, 0, none⟩) x1.length x1.length)), by simp⟩
  have O1 : Hid (Own WE (.list shBank) [.slice (some ⟨g1, 0, none⟩) x0.length x0.length] x0 (Btw W0.heap.size w1.heap.size)) := hW ▸ (((O1.out.set (p := ⟨w.heap.size + 1 + 1, 1, none⟩) (by simp only [Btw]; omega) (.slice (some ⟨g2, 0, none⟩) x1.length x1.length)).set (p := ⟨w.heap.size + 1, 0, none⟩) (by simp only [Btw]; omega) (.slice (some ⟨g1, 0, none⟩) x0.length x0.length)).set (p := ⟨w.heap.size + 1, 1, none⟩) (by simp only [Btw]; omega) (.slice (some ⟨g2, 0, none⟩) x1.length x1.length))
  have O2 : Hid (Own WE (.list shWay) [.slice (some ⟨g2, 0, none⟩) x1.length x1.length] x1 (Btw W1.heap.size w2.heap.size)) := hW ▸ (((O2.out.set (p := ⟨w.heap.size + 1 + 1, 1, none⟩) (by simp only [Btw]; omega) (.slice (some ⟨g2, 0, none⟩) x1.length x1.length)).set (p := ⟨w.heap.size + 1, 0, none⟩) (by simp only [Btw]; omega) (.slice (some ⟨g1, 0, none⟩) x0.length x0.length)).set (p := ⟨w.heap.size + 1, 1, none⟩) (by simp only [Btw]; omega) (.slice (some ⟨g2, 0, none⟩) x1.length x1.length))
  rw [← hW]
  clear hW
  have r0 := HF.out.2.1.cell 0 rfl
  have r1 := HF.out.2.1.cell 1 rfl
  have hzz := HF.out.2.2
  exact bodyPost_ret (v := .agg #[.slice (some ⟨g1, 0, none⟩) x0.length x0.length, .slice (some ⟨g2, 0, none⟩) x1.length x1.length]) (by simp [results, Try.results36, go_sem, r0, r1]) rfl ⟨_, rfl, mkown_Net O1.out O2.out (fun k hk => by simp only [Btw] at hk ⊢; omega) (fun k hk => by simp only [Btw] at hk ⊢; omega) (fun k e f => by simp only [Btw] at e f; omega), HF.out.1⟩
set_option maxRecDepth 100000 in
set_option maxHeartbeats 4000000 in
theorem toBankStep_n (cs : List Value) (x0 : Int) (x1 : Int) (x2 : Int) (x3 : Int) (w : World) (hz : szD shBankStep (x0, x1, x2, x3, ()) ≤ 1073741824) (h : Lies w shBankStep cs (x0, x1, x2, x3, ())) :
    Calls Try.prog 37 #[.agg cs.toArray] w (ToP shBankStep (x0, x1, x2, x3, ()) w) := by
  obtain rfl := lies_BankStep h
  clear h hz
  go_enter Try.func37, Try.ntmps37
  go_wp2
  exact bodyPost_ret (v := .agg #[.int .i64 x0, .int .i64 x1, .int .i64 x2, .int .i64 x3]) (by simp [results, Try.results37, go_sem]) rfl ⟨_, rfl, mkown_BankStep, (by repeat (first | refine Below.setCell ?_ (by (try simp) <;> omega) _ | refine Below.alloc ?_ (by (try simp) <;> omega) _ | refine Below.drew ?_ | assumption | exact Below.refl _ _ | refine Below.trans ?_ (Below.mono (by assumption) (by (try simp) <;> omega))))⟩
set_option maxRecDepth 100000 in
set_option maxHeartbeats 4000000 in
theorem toBankStepS_n (a : Option Addr) (cap : Nat) (x : List (Sh.T shBankStep)) (w : World) (hz : szD (.list shBankStep) x ≤ 1073741824) (h : Lies w (.list shBankStep) [.slice a x.length cap] x) :
    Calls Try.prog 39 #[.slice a x.length cap] w (ToL shBankStep x w) := by
  have HL : Hid (Lies w (.list shBankStep) [.slice a x.length cap] x ∧ szD (.list shBankStep) x ≤ 1073741824) := ⟨h, hz⟩
  have hn : x.length ≤ 1073741824 := by simp only [szD] at hz; omega
  clear h hz
  obtain ⟨n, hnn⟩ : ∃ n, n = x.length := ⟨_, rfl⟩
  have HN : Hid (n = x.length) := hnn
  rw [← hnn] at hn ⊢
  clear hnn
  obtain ⟨i0, hi, hz0, hz1, hz2⟩ := info_parts inf_BankStep
  go_enter Try.func39, Try.ntmps39
  go_wp2_with (at_make; refine wpList_make_full _ rfl (.tmp 6) (.tmp 6) 24 rfl w.heap.size 44 i0 (.agg #[.int .i64 0, .int .i64 0, .int .i64 0, .int .i64 0]) 4 Try.underlying24 hi hz0 hz1 .i64 .i64 _ _ n rfl rfl rfl rfl (by rw [hz2]; omega) (by unfold maxLen; omega) (Nat.le_refl _) ?_; intro w1 hown hgrow)
  have hR := room_made hown
  have hB : Below w.heap.size w w1 := (Below.refl _ _).grown hgrow (Nat.le_refl _) (fun k hk => by cases hk)
  have hG : w.heap.size < w1.heap.size := by
    obtain ⟨_, h | ⟨g', cap', cur, hv, hb, hh, _⟩⟩ := hown
    · exact absurd h.1 (by simp)
    · simp only [Value.slice.injEq, Option.some.injEq, Addr.mk.injEq, and_true, true_and] at hv
      obtain ⟨rfl, rfl⟩ := hv
      rcases Nat.lt_or_ge w.heap.size w1.heap.size with h | h
      · exact h
      · rw [Array.getElem?_eq_none h] at hh; cases hh
  have HI : Hid (OwnK w1 shBankStep w.heap.size n 0 x (Btw w.heap.size w1.heap.size) (fun _ _ => False) ∧ Below w.heap.size w w1) := ⟨⟨hG, ⟨Nat.le_refl _, hG⟩, fun i hi => absurd hi (by omega), fun i j _ hj => absurd hj (by omega), hR, fun i _ hi => absurd hi (by omega)⟩, hB⟩
  clear hown hgrow hi hz0 hz1 hz2 hR hB hG
  go_loopw [4] (fun i wr => ∃ (k : Nat) (B : Nat → Nat → Prop), k ≤ n ∧ i = .int .i64 k ∧ OwnK wr shBankStep w.heap.size n k x (Btw w.heap.size wr.heap.size) B ∧ Below w.heap.size w wr) (fun i _ => n - (intOf i).toNat)
  case atStart => exact ⟨0, _, Nat.zero_le _, rfl, HI.out⟩
  case round =>
    obtain ⟨k, B, hk, rfl, hO, hBr⟩ := hrel
    clear HI
    have HH : Hid (OwnK wr shBankStep w.heap.size n k x (Btw w.heap.size wr.heap.size) B ∧ Below w.heap.size w wr) := ⟨hO, hBr⟩
    clear hO
    by_cases hlt : k < n
    · have hlx : k < x.length := by have := HN.out; omega
      obtain ⟨g, off, hgo, hgs, ec, hel, hec, hle⟩ := Lies.elem (HL.out.1.next hBr) hlx
      subst hgo
      have hlt' : (k : Int) < (n : Int) := by omega
      have HS : Hid (szD shBankStep x[k] ≤ 1073741824) := Hid.intro (by have := sz_mem (List.getElem_mem hlx); have := HL.out.2; omega)
      have HCS : Hid (Lies wr shBankStep ec x[k]) := hle
      obtain ⟨v0, v1, v2, v3, hev⟩ := list_of4 hel
      subst hev
      have c0 : wr.cell? ⟨g, off + k * 4, none⟩ = some v0 := hec 0 (by simp)
      have c1 : wr.cell? ⟨g, off + k * 4 + 1, none⟩ = some v1 := hec 1 (by simp)
      have c2 : wr.cell? ⟨g, off + k * 4 + 2, none⟩ = some v2 := hec 2 (by simp)
      have c3 : wr.cell? ⟨g, off + k * 4 + 3, none⟩ = some v3 := hec 3 (by simp)
      clear hec hel hBr hle
      go_wp2_with fail
      refine (toBankStep_n [v0, v1, v2, v3] x[k].1 x[k].2.1 x[k].2.2.1 x[k].2.2.2.1 _ HS.out HCS.out).mono ?_
      rintro r w2 ⟨cs2, rfl, ho, hb⟩
      obtain hev := own_BankStep (x0 := x[k].1) (x1 := x[k].2.1) (x2 := x[k].2.2.1) (x3 := x[k].2.2.2.1) ho
      subst hev
      have h2 := HH.out.1.next hb
      have hm := h2.more (S' := Btw w.heap.size w2.heap.size) (Sk := Btw wr.heap.size w2.heap.size) (ec := [.int .i64 x[k].1, .int .i64 x[k].2.1, .int .i64 x[k].2.2.1, .int .i64 x[k].2.2.2.1]) hlt hlx rfl ho (fun b hb2 => ⟨hb2.1, Nat.lt_of_lt_of_le hb2.2 hb.size⟩) (fun b hb2 => ⟨⟨Nat.le_trans HH.out.2.size hb2.1, hb2.2⟩, fun q => Nat.lt_irrefl _ (Nat.lt_of_lt_of_le q.2 hb2.1)⟩)
      have hB2 : Below w.heap.size w w2 := HH.out.2.trans (hb.mono HH.out.2.size)
      have HF : Hid (OwnK (put w2 w.heap.size (k * 4) [.int .i64 x[k].1, .int .i64 x[k].2.1, .int .i64 x[k].2.2.1, .int .i64 x[k].2.2.2.1]) shBankStep w.heap.size n (k + 1) x (Btw w.heap.size (put w2 w.heap.size (k * 4) [.int .i64 x[k].1, .int .i64 x[k].2.1, .int .i64 x[k].2.2.1, .int .i64 x[k].2.2.2.1]).heap.size) (fun i => if i = k then Btw wr.heap.size w2.heap.size else B i) ∧ Below w.heap.size w (put w2 w.heap.size (k * 4) [.int .i64 x[k].1, .int .i64 x[k].2.1, .int .i64 x[k].2.2.1, .int .i64 x[k].2.2.2.1])) := ⟨by rw [put_size]; exact hm, put_below (Nat.le_refl _) _ _ _ _ hB2⟩
      have hrm : Room w2 w.heap.size (n * 4) := h2.2.2.2.2.1
      obtain ⟨⟨y0, r0⟩, f0⟩ := hrm (k * 4) (by omega)
      obtain ⟨⟨y1, r1⟩, f1⟩ := hrm (k * 4 + 1) (by omega)
      obtain ⟨⟨y2, r2⟩, f2⟩ := hrm (k * 4 + 2) (by omega)
      obtain ⟨⟨y3, r3⟩, f3⟩ := hrm (k * 4 + 3) (by omega)
      have z2 := h2.1
      clear h2 hm hB2 hb ho hrm HH HCS c0 c1 c2 c3
      go_wp2
      go_roundw
      case rel => exact ⟨k + 1, _, by omega, by go_num, HF.out⟩
      case measure => simp [intOf]; omega
    · have hkn : k = n := by omega
      subst hkn
      have HP : Hid (ToL shBankStep x w (.returned (.slice (some ⟨w.heap.size, 0, none⟩) k k)) wr) := by
        have e := HN.out
        have h1 := HH.out.1
        refine ⟨w.heap.size, by rw [e], ?_, HH.out.2⟩
        rw [e] at h1
        exact h1.list (Nat.le_refl _) (by unfold maxLen; omega)
      clear HH hBr
      go_wp2
      go_ret
      exact HP.out
end Go.Proofs.Ytcklpcdgckkahaa
