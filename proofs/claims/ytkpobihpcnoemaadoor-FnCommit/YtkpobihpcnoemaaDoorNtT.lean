/- The law's own functions that make the program's data of its own. Written by tools/nest.py. -/
import Derived.Test.YtkpobihpcnoemaaDoorGaE
import Derived.Test.YtkpobihpcnoemaaDoorProg
import Derived.Test.YtkpobihpcnoemaaDoorBx
import Derived.WalkKit
import Derived.WalkSpells
import Derived.WalkLawsBesides
import Derived.Test.YtkpobihpcnoemaaDoorGaD
namespace Go.Proofs.YtkpobihpcnoemaaDoor
open Go.RowKit
set_option linter.unusedVariables false
set_option linter.unusedSimpArgs false

theorem inf_int : (Tryd.prog.info? 3).map (fun i => (i.zero, i.size, i.bytes)) = some (some (.int .i64 0), 1, 8) := by kernel_rfl
theorem inf_Replica : (Tryd.prog.info? 44).map (fun i => (i.zero, i.size, i.bytes)) = some (some (.agg #[.bool false, .int .i64 0]), 2, 16) := by kernel_rfl
theorem inf_Shard : (Tryd.prog.info? 42).map (fun i => (i.zero, i.size, i.bytes)) = some (some (.agg #[.slice none 0 0]), 1, 24) := by kernel_rfl
theorem inf_CommitStep : (Tryd.prog.info? 48).map (fun i => (i.zero, i.size, i.bytes)) = some (some (.agg #[.int .i64 0, .int .i64 0, .int .i64 0]), 3, 24) := by kernel_rfl
set_option maxRecDepth 100000 in
set_option maxHeartbeats 4000000 in
theorem toIntS_n (a : Option Addr) (cap : Nat) (x : List (Sh.T .int)) (w : World) (hz : szD (.list .int) x ≤ 1073741824) (h : Lies w (.list .int) [.slice a x.length cap] x) :
    Calls Tryd.prog 25 #[.slice a x.length cap] w (ToL .int x w) := by
  have HL : Hid (Lies w (.list .int) [.slice a x.length cap] x ∧ szD (.list .int) x ≤ 1073741824) := ⟨h, hz⟩
  have hn : x.length ≤ 1073741824 := by simp only [szD] at hz; omega
  clear h hz
  obtain ⟨n, hnn⟩ : ∃ n, n = x.length := ⟨_, rfl⟩
  have HN : Hid (n = x.length) := hnn
  rw [← hnn] at hn ⊢
  clear hnn
  obtain ⟨i0, hi, hz0, hz1, hz2⟩ := info_parts inf_int
  go_enter Tryd.func25, Tryd.ntmps25
  go_wp2_with (at_make; refine wpList_make_full _ rfl (.tmp 6) (.tmp 6) 23 rfl w.heap.size 3 i0 (.int .i64 0) 1 Tryd.underlying23 hi hz0 hz1 .i64 .i64 _ _ n rfl rfl rfl rfl (by rw [hz2]; omega) (by unfold maxLen; omega) (Nat.le_refl _) ?_; intro w1 hown hgrow)
  have hR := room_made hown
  have hB : Below w.heap.size w w1 := (Below.refl _ _).grown hgrow (Nat.le_refl _) (fun k hk => by cases hk)
  have hG : w.heap.size < w1.heap.size := by
    obtain ⟨_, h | ⟨g', cap', cur, hv, hb, hh, _⟩⟩ := hown
    · exact absurd h.1 (by simp)
    · simp only [Value.slice.injEq, Option.some.injEq, Addr.mk.injEq, and_true, true_and] at hv
      obtain ⟨rfl, rfl⟩ := hv
      rcases Nat.lt_or_ge w.heap.size w1.heap.size with h | h
      · exact h
      · rw [Array.getElem?_eq_none h] at hh; cases hh
  have HI : Hid (OwnK w1 .int w.heap.size n 0 x (Btw w.heap.size w1.heap.size) (fun _ _ => False) ∧ Below w.heap.size w w1) := ⟨⟨hG, ⟨Nat.le_refl _, hG⟩, fun i hi => absurd hi (by omega), fun i j _ hj => absurd hj (by omega), hR, fun i _ hi => absurd hi (by omega)⟩, hB⟩
  clear hown hgrow hi hz0 hz1 hz2 hR hB hG
  go_loopw [4] (fun i wr => ∃ (k : Nat) (B : Nat → Nat → Prop), k ≤ n ∧ i = .int .i64 k ∧ OwnK wr .int w.heap.size n k x (Btw w.heap.size wr.heap.size) B ∧ Below w.heap.size w wr) (fun i _ => n - (intOf i).toNat)
  case atStart => exact ⟨0, _, Nat.zero_le _, rfl, HI.out⟩
  case round =>
    obtain ⟨k, B, hk, rfl, hO, hBr⟩ := hrel
    clear HI
    have HH : Hid (OwnK wr .int w.heap.size n k x (Btw w.heap.size wr.heap.size) B ∧ Below w.heap.size w wr) := ⟨hO, hBr⟩
    clear hO
    by_cases hlt : k < n
    · have hlx : k < x.length := by have := HN.out; omega
      obtain ⟨g, off, hgo, hgs, ec, hel, hec, hle⟩ := Lies.elem (HL.out.1.next hBr) hlx
      subst hgo
      have hlt' : (k : Int) < (n : Int) := by omega
      have HS : Hid (szD .int x[k] ≤ 1073741824) := Hid.intro (by have := sz_mem (List.getElem_mem hlx); have := HL.out.2; omega)
      have hev : ec = [.int .i64 x[k]] := hle
      subst hev
      have c0 : wr.cell? ⟨g, off + k, none⟩ = some (.int .i64 x[k]) := by have := hec 0 (by simp); simpa [Sh.c] using this
      have hrm := HH.out.1.2.2.2.2.1
      obtain ⟨⟨y0, r0⟩, f0⟩ := hrm k (by simp [Sh.c]; omega)
      have z0 := HH.out.1.1
      have hw : put wr w.heap.size (k * Sh.c .int) [.int .i64 x[k]] = wr.setCell ⟨w.heap.size, k, none⟩ (.int .i64 x[k]) := by simp [put, Sh.c]
      have hm := HH.out.1.more (S' := Btw w.heap.size wr.heap.size) (Sk := fun _ => False) (ec := [.int .i64 x[k]]) hlt hlx rfl rfl (fun b hb => hb) (fun b hb => hb.elim)
      rw [hw] at hm
      have HF : Hid (OwnK (wr.setCell ⟨w.heap.size, k, none⟩ (.int .i64 x[k])) .int w.heap.size n (k + 1) x (Btw w.heap.size (wr.setCell ⟨w.heap.size, k, none⟩ (.int .i64 x[k])).heap.size) (fun i => if i = k then (fun _ => False) else B i) ∧ Below w.heap.size w (wr.setCell ⟨w.heap.size, k, none⟩ (.int .i64 x[k]))) := ⟨by simpa using hm, HH.out.2.setCell (p := ⟨w.heap.size, k, none⟩) (Nat.le_refl _) _⟩
      clear hec hle hel hBr HH hrm hm hw
      generalize x[k] = xk at *
      go_wp2
      go_roundw
      case rel => exact ⟨k + 1, _, by omega, by go_num, HF.out⟩
      case measure => simp [intOf]; omega
    · have hkn : k = n := by omega
      subst hkn
      have HP : Hid (ToL .int x w (.returned (.slice (some ⟨w.heap.size, 0, none⟩) k k)) wr) := by
        have e := HN.out
        have h1 := HH.out.1
        refine ⟨w.heap.size, by rw [e], ?_, HH.out.2⟩
        rw [e] at h1
        exact h1.list (Nat.le_refl _) (by unfold maxLen; omega)
      clear HH hBr
      go_wp2
      go_ret
      exact HP.out
set_option maxRecDepth 100000 in
set_option maxHeartbeats 4000000 in
theorem toReplica_n (cs : List Value) (x0 : Bool) (x1 : Int) (w : World) (hz : szD shReplica (x0, x1, ()) ≤ 1073741824) (h : Lies w shReplica cs (x0, x1, ())) :
    Calls Tryd.prog 94 #[.agg cs.toArray] w (ToP shReplica (x0, x1, ()) w) := by
  obtain rfl := lies_Replica h
  clear h hz
  go_enter Tryd.func94, Tryd.ntmps94
  go_wp2
  exact bodyPost_ret (v := .agg #[.bool x0, .int .i64 x1]) (by simp [results, Tryd.results94, go_sem]) rfl ⟨_, rfl, mkown_Replica, (by repeat (first | refine Below.setCell ?_ (by (try simp) <;> omega) _ | refine Below.alloc ?_ (by (try simp) <;> omega) _ | refine Below.drew ?_ | assumption | exact Below.refl _ _ | refine Below.trans ?_ (Below.mono (by assumption) (by (try simp) <;> omega))))⟩
set_option maxRecDepth 100000 in
set_option maxHeartbeats 4000000 in
theorem toReplicaS_n (a : Option Addr) (cap : Nat) (x : List (Sh.T shReplica)) (w : World) (hz : szD (.list shReplica) x ≤ 1073741824) (h : Lies w (.list shReplica) [.slice a x.length cap] x) :
    Calls Tryd.prog 87 #[.slice a x.length cap] w (ToL shReplica x w) := by
  have HL : Hid (Lies w (.list shReplica) [.slice a x.length cap] x ∧ szD (.list shReplica) x ≤ 1073741824) := ⟨h, hz⟩
  have hn : x.length ≤ 1073741824 := by simp only [szD] at hz; omega
  clear h hz
  obtain ⟨n, hnn⟩ : ∃ n, n = x.length := ⟨_, rfl⟩
  have HN : Hid (n = x.length) := hnn
  rw [← hnn] at hn ⊢
  clear hnn
  obtain ⟨i0, hi, hz0, hz1, hz2⟩ := info_parts inf_Replica
  go_enter Tryd.func87, Tryd.ntmps87
  go_wp2_with (at_make; refine wpList_make_full _ rfl (.tmp 6) (.tmp 6) 40 rfl w.heap.size 44 i0 (.agg #[.bool false, .int .i64 0]) 2 Tryd.underlying40 hi hz0 hz1 .i64 .i64 _ _ n rfl rfl rfl rfl (by rw [hz2]; omega) (by unfold maxLen; omega) (Nat.le_refl _) ?_; intro w1 hown hgrow)
  have hR := room_made hown
  have hB : Below w.heap.size w w1 := (Below.refl _ _).grown hgrow (Nat.le_refl _) (fun k hk => by cases hk)
  have hG : w.heap.size < w1.heap.size := by
    obtain ⟨_, h | ⟨g', cap', cur, hv, hb, hh, _⟩⟩ := hown
    · exact absurd h.1 (by simp)
    · simp only [Value.slice.injEq, Option.some.injEq, Addr.mk.injEq, and_true, true_and] at hv
      obtain ⟨rfl, rfl⟩ := hv
      rcases Nat.lt_or_ge w.heap.size w1.heap.size with h | h
      · exact h
      · rw [Array.getElem?_eq_none h] at hh; cases hh
  have HI : Hid (OwnK w1 shReplica w.heap.size n 0 x (Btw w.heap.size w1.heap.size) (fun _ _ => False) ∧ Below w.heap.size w w1) := ⟨⟨hG, ⟨Nat.le_refl _, hG⟩, fun i hi => absurd hi (by omega), fun i j _ hj => absurd hj (by omega), hR, fun i _ hi => absurd hi (by omega)⟩, hB⟩
  clear hown hgrow hi hz0 hz1 hz2 hR hB hG
  go_loopw [4] (fun i wr => ∃ (k : Nat) (B : Nat → Nat → Prop), k ≤ n ∧ i = .int .i64 k ∧ OwnK wr shReplica w.heap.size n k x (Btw w.heap.size wr.heap.size) B ∧ Below w.heap.size w wr) (fun i _ => n - (intOf i).toNat)
  case atStart => exact ⟨0, _, Nat.zero_le _, rfl, HI.out⟩
  case round =>
    obtain ⟨k, B, hk, rfl, hO, hBr⟩ := hrel
    clear HI
    have HH : Hid (OwnK wr shReplica w.heap.size n k x (Btw w.heap.size wr.heap.size) B ∧ Below w.heap.size w wr) := ⟨hO, hBr⟩
    clear hO
    by_cases hlt : k < n
    · have hlx : k < x.length := by have := HN.out; omega
      obtain ⟨g, off, hgo, hgs, ec, hel, hec, hle⟩ := Lies.elem (HL.out.1.next hBr) hlx
      subst hgo
      have hlt' : (k : Int) < (n : Int) := by omega
      have HS : Hid (szD shReplica x[k] ≤ 1073741824) := Hid.intro (by have := sz_mem (List.getElem_mem hlx); have := HL.out.2; omega)
      have HCS : Hid (Lies wr shReplica ec x[k]) := hle
      obtain ⟨v0, v1, hev⟩ := list_of2 hel
      subst hev
      have c0 : wr.cell? ⟨g, off + k * 2, none⟩ = some v0 := hec 0 (by simp)
      have c1 : wr.cell? ⟨g, off + k * 2 + 1, none⟩ = some v1 := hec 1 (by simp)
      clear hec hel hBr hle
      go_wp2_with fail
      refine (toReplica_n [v0, v1] x[k].1 x[k].2.1 _ HS.out HCS.out).mono ?_
      rintro r w2 ⟨cs2, rfl, ho, hb⟩
      obtain hev := own_Replica (x0 := x[k].1) (x1 := x[k].2.1) ho
      subst hev
      have h2 := HH.out.1.next hb
      have hm := h2.more (S' := Btw w.heap.size w2.heap.size) (Sk := Btw wr.heap.size w2.heap.size) (ec := [.bool x[k].1, .int .i64 x[k].2.1]) hlt hlx rfl ho (fun b hb2 => ⟨hb2.1, Nat.lt_of_lt_of_le hb2.2 hb.size⟩) (fun b hb2 => ⟨⟨Nat.le_trans HH.out.2.size hb2.1, hb2.2⟩, fun q => Nat.lt_irrefl _ (Nat.lt_of_lt_of_le q.2 hb2.1)⟩)
      have hB2 : Below w.heap.size w w2 := HH.out.2.trans (hb.mono HH.out.2.size)
      have HF : Hid (OwnK (put w2 w.heap.size (k * 2) [.bool x[k].1, .int .i64 x[k].2.1]) shReplica w.heap.size n (k + 1) x (Btw w.heap.size (put w2 w.heap.size (k * 2) [.bool x[k].1, .int .i64 x[k].2.1]).heap.size) (fun i => if i = k then Btw wr.heap.size w2.heap.size else B i) ∧ Below w.heap.size w (put w2 w.heap.size (k * 2) [.bool x[k].1, .int .i64 x[k].2.1])) := ⟨by rw [put_size]; exact hm, put_below (Nat.le_refl _) _ _ _ _ hB2⟩
      have hrm : Room w2 w.heap.size (n * 2) := h2.2.2.2.2.1
      obtain ⟨⟨y0, r0⟩, f0⟩ := hrm (k * 2) (by omega)
      obtain ⟨⟨y1, r1⟩, f1⟩ := hrm (k * 2 + 1) (by omega)
      have z2 := h2.1
      clear h2 hm hB2 hb ho hrm HH HCS c0 c1
      go_wp2
      go_roundw
      case rel => exact ⟨k + 1, _, by omega, by go_num, HF.out⟩
      case measure => simp [intOf]; omega
    · have hkn : k = n := by omega
      subst hkn
      have HP : Hid (ToL shReplica x w (.returned (.slice (some ⟨w.heap.size, 0, none⟩) k k)) wr) := by
        have e := HN.out
        have h1 := HH.out.1
        refine ⟨w.heap.size, by rw [e], ?_, HH.out.2⟩
        rw [e] at h1
        exact h1.list (Nat.le_refl _) (by unfold maxLen; omega)
      clear HH hBr
      go_wp2
      go_ret
      exact HP.out
set_option maxRecDepth 100000 in
set_option maxHeartbeats 4000000 in
theorem toShard_n (cs : List Value) (x0 : List (Sh.T shReplica)) (w : World) (hz : szD shShard (x0, ()) ≤ 1073741824) (h : Lies w shShard cs (x0, ())) :
    Calls Tryd.prog 72 #[.agg cs.toArray] w (ToP shShard (x0, ()) w) := by
  obtain ⟨a1, k1, rfl, h1⟩ := lies_Shard h
  have HE : Hid (szD shShard (x0, ()) = (szD (.list shReplica) x0 + 0)) := rfl
  have HZ : Hid (szD shShard (x0, ()) ≤ 1073741824) := hz
  have HL : Hid (True ∧ Lies w (.list shReplica) [.slice a1 x0.length k1] x0) := ⟨trivial, h1⟩
  clear h hz h1
  go_enter Tryd.func72, Tryd.ntmps72
  go_wp2_with fail
  obtain ⟨W0, hW⟩ : ∃ x, x = ((w.alloc (.cells #[.slice a1 x0.length k1] 105)).alloc (.cells #[.slice none 0 0] 42)).alloc (.cells #[.slice none 0 0] 42) := ⟨_, rfl⟩
  have HB0 : Hid (Below w.heap.size w W0 ∧ Bx W0 w.heap.size [.slice a1 x0.length k1] ∧ Bx W0 (w.heap.size + 1) [.slice none 0 0] ∧ Bx W0 (w.heap.size + 1 + 1) [.slice none 0 0] ∧ W0.heap.size = w.heap.size + 1 + 1 + 1) := hW ▸ ⟨(((Below.refl _ _).alloc (Nat.le_refl _) _).alloc (by simp) _).alloc (by simp; omega) _, ((Bx.new w [.slice a1 x0.length k1] _).alloc _).alloc _, (Bx.newAt (by simp)).alloc _, Bx.newAt (by simp), by simp⟩
  rw [← hW]
  clear hW
  refine (toReplicaS_n _ _ x0 W0 (by have := HZ.out; rw [HE.out] at this; omega) (HL.out.2.next HB0.out.1)).mono ?_
  rintro r w1 ⟨g1, rfl, ho, hb⟩
  have O1 : Hid (Own w1 (.list shReplica) [.slice (some ⟨g1, 0, none⟩) x0.length x0.length] x0 (Btw W0.heap.size w1.heap.size)) := ho
  clear ho
  have HC1 : Hid (Below w.heap.size w w1 ∧ Bx w1 w.heap.size [.slice a1 x0.length k1] ∧ Bx w1 (w.heap.size + 1) [.slice none 0 0] ∧ Bx w1 (w.heap.size + 1 + 1) [.slice none 0 0]) := ⟨HB0.out.1.trans (hb.mono HB0.out.1.size), HB0.out.2.1.next hb, HB0.out.2.2.1.next hb, HB0.out.2.2.2.1.next hb⟩
  have hs1 : W0.heap.size ≤ w1.heap.size := hb.size
  have ht1 := HB0.out.2.2.2.2
  clear hb HB0
  have d0 := HC1.out.2.1.cell 0 rfl
  have dz := HC1.out.2.1.2
  have e0 := HC1.out.2.2.2.cell 0 rfl
  have f0 := HC1.out.2.2.2.frz 0 (by simp)
  have y0 := HC1.out.2.2.1.cell 0 rfl
  have v0 := HC1.out.2.2.1.frz 0 (by simp)
  have ez := HC1.out.2.2.2.2
  have yz := HC1.out.2.2.1.2
  go_wp2
  obtain ⟨WE, hW⟩ : ∃ x, x = ((w1.setCell ⟨w.heap.size + 1 + 1, 0, none⟩ (.slice (some ⟨g1, 0, none⟩) x0.length x0.length)).setCell ⟨w.heap.size + 1, 0, none⟩ (.slice (some ⟨g1, 0, none⟩) x0.length x0.length)) := ⟨_, rfl⟩
  have HF : Hid (Below w.heap.size w WE ∧ Bx WE (w.heap.size + 1) [.slice (some ⟨g1, 0, none⟩) x0.length x0.length] ∧ WE.heap.size = w1.heap.size) := hW ▸ ⟨((HC1.out.1.setCell (p := ⟨w.heap.size + 1 + 1, 0, none⟩) (by simp; omega) (.slice (some ⟨g1, 0, none⟩) x0.length x0.length)).setCell (p := ⟨w.heap.size + 1, 0, none⟩) (by simp) (.slice (some ⟨g1, 0, none⟩) x0.length x0.length)), ((HC1.out.2.2.1.other (by omega)).set (k := 0) (by simp) (.slice (some ⟨g1, 0, none⟩) x0.length x0.length)), by simp⟩
  have O1 : Hid (Own WE (.list shReplica) [.slice (some ⟨g1, 0, none⟩) x0.length x0.length] x0 (Btw W0.heap.size w1.heap.size)) := hW ▸ ((O1.out.set (p := ⟨w.heap.size + 1 + 1, 0, none⟩) (by simp only [Btw]; omega) (.slice (some ⟨g1, 0, none⟩) x0.length x0.length)).set (p := ⟨w.heap.size + 1, 0, none⟩) (by simp only [Btw]; omega) (.slice (some ⟨g1, 0, none⟩) x0.length x0.length))
  rw [← hW]
  clear hW
  have r0 := HF.out.2.1.cell 0 rfl
  have hzz := HF.out.2.2
  exact bodyPost_ret (v := .agg #[.slice (some ⟨g1, 0, none⟩) x0.length x0.length]) (by simp [results, Tryd.results72, go_sem, r0]) rfl ⟨_, rfl, mkown_Shard O1.out (fun k hk => by simp only [Btw] at hk ⊢; omega), HF.out.1⟩
set_option maxRecDepth 100000 in
set_option maxHeartbeats 4000000 in
theorem toShardS_n (a : Option Addr) (cap : Nat) (x : List (Sh.T shShard)) (w : World) (hz : szD (.list shShard) x ≤ 1073741824) (h : Lies w (.list shShard) [.slice a x.length cap] x) :
    Calls Tryd.prog 53 #[.slice a x.length cap] w (ToL shShard x w) := by
  have HL : Hid (Lies w (.list shShard) [.slice a x.length cap] x ∧ szD (.list shShard) x ≤ 1073741824) := ⟨h, hz⟩
  have hn : x.length ≤ 1073741824 := by simp only [szD] at hz; omega
  clear h hz
  obtain ⟨n, hnn⟩ : ∃ n, n = x.length := ⟨_, rfl⟩
  have HN : Hid (n = x.length) := hnn
  rw [← hnn] at hn ⊢
  clear hnn
  obtain ⟨i0, hi, hz0, hz1, hz2⟩ := info_parts inf_Shard
  go_enter Tryd.func53, Tryd.ntmps53
  go_wp2_with (at_make; refine wpList_make_full _ rfl (.tmp 6) (.tmp 6) 27 rfl w.heap.size 42 i0 (.agg #[.slice none 0 0]) 1 Tryd.underlying27 hi hz0 hz1 .i64 .i64 _ _ n rfl rfl rfl rfl (by rw [hz2]; omega) (by unfold maxLen; omega) (Nat.le_refl _) ?_; intro w1 hown hgrow)
  have hR := room_made hown
  have hB : Below w.heap.size w w1 := (Below.refl _ _).grown hgrow (Nat.le_refl _) (fun k hk => by cases hk)
  have hG : w.heap.size < w1.heap.size := by
    obtain ⟨_, h | ⟨g', cap', cur, hv, hb, hh, _⟩⟩ := hown
    · exact absurd h.1 (by simp)
    · simp only [Value.slice.injEq, Option.some.injEq, Addr.mk.injEq, and_true, true_and] at hv
      obtain ⟨rfl, rfl⟩ := hv
      rcases Nat.lt_or_ge w.heap.size w1.heap.size with h | h
      · exact h
      · rw [Array.getElem?_eq_none h] at hh; cases hh
  have HI : Hid (OwnK w1 shShard w.heap.size n 0 x (Btw w.heap.size w1.heap.size) (fun _ _ => False) ∧ Below w.heap.size w w1) := ⟨⟨hG, ⟨Nat.le_refl _, hG⟩, fun i hi => absurd hi (by omega), fun i j _ hj => absurd hj (by omega), hR, fun i _ hi => absurd hi (by omega)⟩, hB⟩
  clear hown hgrow hi hz0 hz1 hz2 hR hB hG
  go_loopw [4] (fun i wr => ∃ (k : Nat) (B : Nat → Nat → Prop), k ≤ n ∧ i = .int .i64 k ∧ OwnK wr shShard w.heap.size n k x (Btw w.heap.size wr.heap.size) B ∧ Below w.heap.size w wr) (fun i _ => n - (intOf i).toNat)
  case atStart => exact ⟨0, _, Nat.zero_le _, rfl, HI.out⟩
  case round =>
    obtain ⟨k, B, hk, rfl, hO, hBr⟩ := hrel
    clear HI
    have HH : Hid (OwnK wr shShard w.heap.size n k x (Btw w.heap.size wr.heap.size) B ∧ Below w.heap.size w wr) := ⟨hO, hBr⟩
    clear hO
    by_cases hlt : k < n
    · have hlx : k < x.length := by have := HN.out; omega
      obtain ⟨g, off, hgo, hgs, ec, hel, hec, hle⟩ := Lies.elem (HL.out.1.next hBr) hlx
      subst hgo
      have hlt' : (k : Int) < (n : Int) := by omega
      have HS : Hid (szD shShard x[k] ≤ 1073741824) := Hid.intro (by have := sz_mem (List.getElem_mem hlx); have := HL.out.2; omega)
      have HCS : Hid (Lies wr shShard ec x[k]) := hle
      obtain ⟨v0, hev⟩ := list_of1 hel
      subst hev
      have c0 : wr.cell? ⟨g, off + k, none⟩ = some v0 := (by have := hec 0 (by simp); simpa [shShard, Sh.c] using this)
      clear hec hel hBr hle
      go_wp2_with fail
      refine (toShard_n [v0] x[k].1 _ HS.out HCS.out).mono ?_
      rintro r w2 ⟨cs2, rfl, ho, hb⟩
      obtain ⟨p1, q1, _, hev, _⟩ := own_Shard (x0 := x[k].1) ho
      subst hev
      have h2 := HH.out.1.next hb
      have hm := h2.more (S' := Btw w.heap.size w2.heap.size) (Sk := Btw wr.heap.size w2.heap.size) (ec := [.slice p1 x[k].1.length q1]) hlt hlx rfl ho (fun b hb2 => ⟨hb2.1, Nat.lt_of_lt_of_le hb2.2 hb.size⟩) (fun b hb2 => ⟨⟨Nat.le_trans HH.out.2.size hb2.1, hb2.2⟩, fun q => Nat.lt_irrefl _ (Nat.lt_of_lt_of_le q.2 hb2.1)⟩)
      have hB2 : Below w.heap.size w w2 := HH.out.2.trans (hb.mono HH.out.2.size)
      have HF : Hid (OwnK (w2.setCell ⟨w.heap.size, k, none⟩ (.slice p1 x[k].1.length q1)) shShard w.heap.size n (k + 1) x (Btw w.heap.size (w2.setCell ⟨w.heap.size, k, none⟩ (.slice p1 x[k].1.length q1)).heap.size) (fun i => if i = k then Btw wr.heap.size w2.heap.size else B i) ∧ Below w.heap.size w (w2.setCell ⟨w.heap.size, k, none⟩ (.slice p1 x[k].1.length q1))) := ⟨by rw [show put w2 w.heap.size (k * Sh.c shShard) [.slice p1 x[k].1.length q1] = w2.setCell ⟨w.heap.size, k, none⟩ (.slice p1 x[k].1.length q1) from by simp [put, shShard, Sh.c]] at hm; simpa using hm, hB2.setCell (p := ⟨w.heap.size, k, none⟩) (Nat.le_refl _) _⟩
      have hrm : Room w2 w.heap.size (n * 1) := h2.2.2.2.2.1
      obtain ⟨⟨y0, r0⟩, f0⟩ := hrm (k) (by omega)
      have z2 := h2.1
      clear h2 hm hB2 hb ho hrm HH HCS c0
      go_wp2
      go_roundw
      case rel => exact ⟨k + 1, _, by omega, by go_num, HF.out⟩
      case measure => simp [intOf]; omega
    · have hkn : k = n := by omega
      subst hkn
      have HP : Hid (ToL shShard x w (.returned (.slice (some ⟨w.heap.size, 0, none⟩) k k)) wr) := by
        have e := HN.out
        have h1 := HH.out.1
        refine ⟨w.heap.size, by rw [e], ?_, HH.out.2⟩
        rw [e] at h1
        exact h1.list (Nat.le_refl _) (by unfold maxLen; omega)
      clear HH hBr
      go_wp2
      go_ret
      exact HP.out
set_option maxRecDepth 100000 in
set_option maxHeartbeats 4000000 in
theorem toCommit_n (cs : List Value) (x0 : List (Sh.T shShard)) (x1 : Int) (x2 : Int) (w : World) (hz : szD shCommit (x0, x1, x2, ()) ≤ 1073741824) (h : Lies w shCommit cs (x0, x1, x2, ())) :
    Calls Tryd.prog 19 #[.agg cs.toArray] w (ToP shCommit (x0, x1, x2, ()) w) := by
  obtain ⟨a1, k1, rfl, h1⟩ := lies_Commit h
  have HE : Hid (szD shCommit (x0, x1, x2, ()) = (szD (.list shShard) x0 + (0 + (0 + 0)))) := rfl
  have HZ : Hid (szD shCommit (x0, x1, x2, ()) ≤ 1073741824) := hz
  have HL : Hid (True ∧ Lies w (.list shShard) [.slice a1 x0.length k1] x0) := ⟨trivial, h1⟩
  clear h hz h1
  go_enter Tryd.func19, Tryd.ntmps19
  go_wp2_with fail
  obtain ⟨W0, hW⟩ : ∃ x, x = ((w.alloc (.cells #[.slice a1 x0.length k1, .int .i64 x1, .int .i64 x2] 54)).alloc (.cells #[.slice none 0 0, .int .i64 0, .int .i64 0] 29)).alloc (.cells #[.slice none 0 0, .int .i64 0, .int .i64 0] 29) := ⟨_, rfl⟩
  have HB0 : Hid (Below w.heap.size w W0 ∧ Bx W0 w.heap.size [.slice a1 x0.length k1, .int .i64 x1, .int .i64 x2] ∧ Bx W0 (w.heap.size + 1) [.slice none 0 0, .int .i64 0, .int .i64 0] ∧ Bx W0 (w.heap.size + 1 + 1) [.slice none 0 0, .int .i64 0, .int .i64 0] ∧ W0.heap.size = w.heap.size + 1 + 1 + 1) := hW ▸ ⟨(((Below.refl _ _).alloc (Nat.le_refl _) _).alloc (by simp) _).alloc (by simp; omega) _, ((Bx.new w [.slice a1 x0.length k1, .int .i64 x1, .int .i64 x2] _).alloc _).alloc _, (Bx.newAt (by simp)).alloc _, Bx.newAt (by simp), by simp⟩
  rw [← hW]
  clear hW
  refine (toShardS_n _ _ x0 W0 (by have := HZ.out; rw [HE.out] at this; omega) (HL.out.2.next HB0.out.1)).mono ?_
  rintro r w1 ⟨g1, rfl, ho, hb⟩
  have O1 : Hid (Own w1 (.list shShard) [.slice (some ⟨g1, 0, none⟩) x0.length x0.length] x0 (Btw W0.heap.size w1.heap.size)) := ho
  clear ho
  have HC1 : Hid (Below w.heap.size w w1 ∧ Bx w1 w.heap.size [.slice a1 x0.length k1, .int .i64 x1, .int .i64 x2] ∧ Bx w1 (w.heap.size + 1) [.slice none 0 0, .int .i64 0, .int .i64 0] ∧ Bx w1 (w.heap.size + 1 + 1) [.slice none 0 0, .int .i64 0, .int .i64 0]) := ⟨HB0.out.1.trans (hb.mono HB0.out.1.size), HB0.out.2.1.next hb, HB0.out.2.2.1.next hb, HB0.out.2.2.2.1.next hb⟩
  have hs1 : W0.heap.size ≤ w1.heap.size := hb.size
  have ht1 := HB0.out.2.2.2.2
  clear hb HB0
  have d0 := HC1.out.2.1.cell 0 rfl
  have d1 := HC1.out.2.1.cell 1 rfl
  have d2 := HC1.out.2.1.cell 2 rfl
  have dz := HC1.out.2.1.2
  have e0 := HC1.out.2.2.2.cell 0 rfl
  have f0 := HC1.out.2.2.2.frz 0 (by simp)
  have y0 := HC1.out.2.2.1.cell 0 rfl
  have v0 := HC1.out.2.2.1.frz 0 (by simp)
  have e1 := HC1.out.2.2.2.cell 1 rfl
  have f1 := HC1.out.2.2.2.frz 1 (by simp)
  have y1 := HC1.out.2.2.1.cell 1 rfl
  have v1 := HC1.out.2.2.1.frz 1 (by simp)
  have e2 := HC1.out.2.2.2.cell 2 rfl
  have f2 := HC1.out.2.2.2.frz 2 (by simp)
  have y2 := HC1.out.2.2.1.cell 2 rfl
  have v2 := HC1.out.2.2.1.frz 2 (by simp)
  have ez := HC1.out.2.2.2.2
  have yz := HC1.out.2.2.1.2
  go_wp2
  obtain ⟨WE, hW⟩ : ∃ x, x = ((((((w1.setCell ⟨w.heap.size + 1 + 1, 0, none⟩ (.slice (some ⟨g1, 0, none⟩) x0.length x0.length)).setCell ⟨w.heap.size + 1 + 1, 1, none⟩ (.int .i64 x1)).setCell ⟨w.heap.size + 1 + 1, 2, none⟩ (.int .i64 x2)).setCell ⟨w.heap.size + 1, 0, none⟩ (.slice (some ⟨g1, 0, none⟩) x0.length x0.length)).setCell ⟨w.heap.size + 1, 1, none⟩ (.int .i64 x1)).setCell ⟨w.heap.size + 1, 2, none⟩ (.int .i64 x2)) := ⟨_, rfl⟩
  have HF : Hid (Below w.heap.size w WE ∧ Bx WE (w.heap.size + 1) [.slice (some ⟨g1, 0, none⟩) x0.length x0.length, .int .i64 x1, .int .i64 x2] ∧ WE.heap.size = w1.heap.size) := hW ▸ ⟨((((((HC1.out.1.setCell (p := ⟨w.heap.size + 1 + 1, 0, none⟩) (by simp; omega) (.slice (some ⟨g1, 0, none⟩) x0.length x0.length)).setCell (p := ⟨w.heap.size + 1 + 1, 1, none⟩) (by simp; omega) (.int .i64 x1)).setCell (p := ⟨w.heap.size + 1 + 1, 2, none⟩) (by simp; omega) (.int .i64 x2)).setCell (p := ⟨w.heap.size + 1, 0, none⟩) (by simp) (.slice (some ⟨g1, 0, none⟩) x0.length x0.length)).setCell (p := ⟨w.heap.size + 1, 1, none⟩) (by simp) (.int .i64 x1)).setCell (p := ⟨w.heap.size + 1, 2, none⟩) (by simp) (.int .i64 x2)), ((((((HC1.out.2.2.1.other (by omega)).other (by omega)).other (by omega)).set (k := 0) (by simp) (.slice (some ⟨g1, 0, none⟩) x0.length x0.length)).set (k := 1) (by simp) (.int .i64 x1)).set (k := 2) (by simp) (.int .i64 x2)), by simp⟩
  have O1 : Hid (Own WE (.list shShard) [.slice (some ⟨g1, 0, none⟩) x0.length x0.length] x0 (Btw W0.heap.size w1.heap.size)) := hW ▸ ((((((O1.out.set (p := ⟨w.heap.size + 1 + 1, 0, none⟩) (by simp only [Btw]; omega) (.slice (some ⟨g1, 0, none⟩) x0.length x0.length)).set (p := ⟨w.heap.size + 1 + 1, 1, none⟩) (by simp only [Btw]; omega) (.int .i64 x1)).set (p := ⟨w.heap.size + 1 + 1, 2, none⟩) (by simp only [Btw]; omega) (.int .i64 x2)).set (p := ⟨w.heap.size + 1, 0, none⟩) (by simp only [Btw]; omega) (.slice (some ⟨g1, 0, none⟩) x0.length x0.length)).set (p := ⟨w.heap.size + 1, 1, none⟩) (by simp only [Btw]; omega) (.int .i64 x1)).set (p := ⟨w.heap.size + 1, 2, none⟩) (by simp only [Btw]; omega) (.int .i64 x2))
  rw [← hW]
  clear hW
  have r0 := HF.out.2.1.cell 0 rfl
  have r1 := HF.out.2.1.cell 1 rfl
  have r2 := HF.out.2.1.cell 2 rfl
  have hzz := HF.out.2.2
  exact bodyPost_ret (v := .agg #[.slice (some ⟨g1, 0, none⟩) x0.length x0.length, .int .i64 x1, .int .i64 x2]) (by simp [results, Tryd.results19, go_sem, r0, r1, r2]) rfl ⟨_, rfl, mkown_Commit O1.out (fun k hk => by simp only [Btw] at hk ⊢; omega), HF.out.1⟩
set_option maxRecDepth 100000 in
set_option maxHeartbeats 4000000 in
theorem toCommitStep_n (cs : List Value) (x0 : Int) (x1 : Int) (x2 : Int) (w : World) (hz : szD shCommitStep (x0, x1, x2, ()) ≤ 1073741824) (h : Lies w shCommitStep cs (x0, x1, x2, ())) :
    Calls Tryd.prog 20 #[.agg cs.toArray] w (ToP shCommitStep (x0, x1, x2, ()) w) := by
  obtain rfl := lies_CommitStep h
  clear h hz
  go_enter Tryd.func20, Tryd.ntmps20
  go_wp2
  exact bodyPost_ret (v := .agg #[.int .i64 x0, .int .i64 x1, .int .i64 x2]) (by simp [results, Tryd.results20, go_sem]) rfl ⟨_, rfl, mkown_CommitStep, (by repeat (first | refine Below.setCell ?_ (by (try simp) <;> omega) _ | refine Below.alloc ?_ (by (try simp) <;> omega) _ | refine Below.drew ?_ | assumption | exact Below.refl _ _ | refine Below.trans ?_ (Below.mono (by assumption) (by (try simp) <;> omega))))⟩
set_option maxRecDepth 100000 in
set_option maxHeartbeats 4000000 in
theorem toCommitStepS_n (a : Option Addr) (cap : Nat) (x : List (Sh.T shCommitStep)) (w : World) (hz : szD (.list shCommitStep) x ≤ 1073741824) (h : Lies w (.list shCommitStep) [.slice a x.length cap] x) :
    Calls Tryd.prog 26 #[.slice a x.length cap] w (ToL shCommitStep x w) := by
  have HL : Hid (Lies w (.list shCommitStep) [.slice a x.length cap] x ∧ szD (.list shCommitStep) x ≤ 1073741824) := ⟨h, hz⟩
  have hn : x.length ≤ 1073741824 := by simp only [szD] at hz; omega
  clear h hz
  obtain ⟨n, hnn⟩ : ∃ n, n = x.length := ⟨_, rfl⟩
  have HN : Hid (n = x.length) := hnn
  rw [← hnn] at hn ⊢
  clear hnn
  obtain ⟨i0, hi, hz0, hz1, hz2⟩ := info_parts inf_CommitStep
  go_enter Tryd.func26, Tryd.ntmps26
  go_wp2_with (at_make; refine wpList_make_full _ rfl (.tmp 6) (.tmp 6) 24 rfl w.heap.size 48 i0 (.agg #[.int .i64 0, .int .i64 0, .int .i64 0]) 3 Tryd.underlying24 hi hz0 hz1 .i64 .i64 _ _ n rfl rfl rfl rfl (by rw [hz2]; omega) (by unfold maxLen; omega) (Nat.le_refl _) ?_; intro w1 hown hgrow)
  have hR := room_made hown
  have hB : Below w.heap.size w w1 := (Below.refl _ _).grown hgrow (Nat.le_refl _) (fun k hk => by cases hk)
  have hG : w.heap.size < w1.heap.size := by
    obtain ⟨_, h | ⟨g', cap', cur, hv, hb, hh, _⟩⟩ := hown
    · exact absurd h.1 (by simp)
    · simp only [Value.slice.injEq, Option.some.injEq, Addr.mk.injEq, and_true, true_and] at hv
      obtain ⟨rfl, rfl⟩ := hv
      rcases Nat.lt_or_ge w.heap.size w1.heap.size with h | h
      · exact h
      · rw [Array.getElem?_eq_none h] at hh; cases hh
  have HI : Hid (OwnK w1 shCommitStep w.heap.size n 0 x (Btw w.heap.size w1.heap.size) (fun _ _ => False) ∧ Below w.heap.size w w1) := ⟨⟨hG, ⟨Nat.le_refl _, hG⟩, fun i hi => absurd hi (by omega), fun i j _ hj => absurd hj (by omega), hR, fun i _ hi => absurd hi (by omega)⟩, hB⟩
  clear hown hgrow hi hz0 hz1 hz2 hR hB hG
  go_loopw [4] (fun i wr => ∃ (k : Nat) (B : Nat → Nat → Prop), k ≤ n ∧ i = .int .i64 k ∧ OwnK wr shCommitStep w.heap.size n k x (Btw w.heap.size wr.heap.size) B ∧ Below w.heap.size w wr) (fun i _ => n - (intOf i).toNat)
  case atStart => exact ⟨0, _, Nat.zero_le _, rfl, HI.out⟩
  case round =>
    obtain ⟨k, B, hk, rfl, hO, hBr⟩ := hrel
    clear HI
    have HH : Hid (OwnK wr shCommitStep w.heap.size n k x (Btw w.heap.size wr.heap.size) B ∧ Below w.heap.size w wr) := ⟨hO, hBr⟩
    clear hO
    by_cases hlt : k < n
    · have hlx : k < x.length := by have := HN.out; omega
      obtain ⟨g, off, hgo, hgs, ec, hel, hec, hle⟩ := Lies.elem (HL.out.1.next hBr) hlx
      subst hgo
      have hlt' : (k : Int) < (n : Int) := by omega
      have HS : Hid (szD shCommitStep x[k] ≤ 1073741824) := Hid.intro (by have := sz_mem (List.getElem_mem hlx); have := HL.out.2; omega)
      have HCS : Hid (Lies wr shCommitStep ec x[k]) := hle
      obtain ⟨v0, v1, v2, hev⟩ := list_of3 hel
      subst hev
      have c0 : wr.cell? ⟨g, off + k * 3, none⟩ = some v0 := hec 0 (by simp)
      have c1 : wr.cell? ⟨g, off + k * 3 + 1, none⟩ = some v1 := hec 1 (by simp)
      have c2 : wr.cell? ⟨g, off + k * 3 + 2, none⟩ = some v2 := hec 2 (by simp)
      clear hec hel hBr hle
      go_wp2_with fail
      refine (toCommitStep_n [v0, v1, v2] x[k].1 x[k].2.1 x[k].2.2.1 _ HS.out HCS.out).mono ?_
      rintro r w2 ⟨cs2, rfl, ho, hb⟩
      obtain hev := own_CommitStep (x0 := x[k].1) (x1 := x[k].2.1) (x2 := x[k].2.2.1) ho
      subst hev
      have h2 := HH.out.1.next hb
      have hm := h2.more (S' := Btw w.heap.size w2.heap.size) (Sk := Btw wr.heap.size w2.heap.size) (ec := [.int .i64 x[k].1, .int .i64 x[k].2.1, .int .i64 x[k].2.2.1]) hlt hlx rfl ho (fun b hb2 => ⟨hb2.1, Nat.lt_of_lt_of_le hb2.2 hb.size⟩) (fun b hb2 => ⟨⟨Nat.le_trans HH.out.2.size hb2.1, hb2.2⟩, fun q => Nat.lt_irrefl _ (Nat.lt_of_lt_of_le q.2 hb2.1)⟩)
      have hB2 : Below w.heap.size w w2 := HH.out.2.trans (hb.mono HH.out.2.size)
      have HF : Hid (OwnK (put w2 w.heap.size (k * 3) [.int .i64 x[k].1, .int .i64 x[k].2.1, .int .i64 x[k].2.2.1]) shCommitStep w.heap.size n (k + 1) x (Btw w.heap.size (put w2 w.heap.size (k * 3) [.int .i64 x[k].1, .int .i64 x[k].2.1, .int .i64 x[k].2.2.1]).heap.size) (fun i => if i = k then Btw wr.heap.size w2.heap.size else B i) ∧ Below w.heap.size w (put w2 w.heap.size (k * 3) [.int .i64 x[k].1, .int .i64 x[k].2.1, .int .i64 x[k].2.2.1])) := ⟨by rw [put_size]; exact hm, put_below (Nat.le_refl _) _ _ _ _ hB2⟩
      have hrm : Room w2 w.heap.size (n * 3) := h2.2.2.2.2.1
      obtain ⟨⟨y0, r0⟩, f0⟩ := hrm (k * 3) (by omega)
      obtain ⟨⟨y1, r1⟩, f1⟩ := hrm (k * 3 + 1) (by omega)
      obtain ⟨⟨y2, r2⟩, f2⟩ := hrm (k * 3 + 2) (by omega)
      have z2 := h2.1
      clear h2 hm hB2 hb ho hrm HH HCS c0 c1 c2
      go_wp2
      go_roundw
      case rel => exact ⟨k + 1, _, by omega, by go_num, HF.out⟩
      case measure => simp [intOf]; omega
    · have hkn : k = n := by omega
      subst hkn
      have HP : Hid (ToL shCommitStep x w (.returned (.slice (some ⟨w.heap.size, 0, none⟩) k k)) wr) := by
        have e := HN.out
        have h1 := HH.out.1
        refine ⟨w.heap.size, by rw [e], ?_, HH.out.2⟩
        rw [e] at h1
        exact h1.list (Nat.le_refl _) (by unfold maxLen; omega)
      clear HH hBr
      go_wp2
      go_ret
      exact HP.out
end Go.Proofs.YtkpobihpcnoemaaDoor
