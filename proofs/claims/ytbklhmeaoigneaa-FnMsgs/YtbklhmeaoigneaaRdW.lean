/- The contract of ReadMsg: the message at the front of a text's bytes. -/
import Derived.Test.YtbklhmeaoigneaaRdM
import Derived.Deep.RegionWith
import Derived.Deep.DeepCutAuto
namespace Go.Proofs.Ytbklhmeaoigneaa
open Go.RowKit
set_option linter.unusedVariables false

set_option maxRecDepth 100000 in
set_option maxHeartbeats 4000000 in
theorem readMsg_any (s : ByteArray) (w : World) (hs : s.size ≤ 1048576) :
    Calls Try.prog 29 #[.string s] w fun r w' => r = .returned (.tuple #[.agg (rAgg s), .int .i64 (mI s (rEnd s))]) ∧ Below w.heap.size w w' := by
  go_enter Try.func29, Try.ntmps29
  go_wp2
  refine wp_scope_jumps 0 (fun a' w' => (∃ (u1 u3 u4 u5 u6 u7 u8 u9 u10 u11 u12 u13 u14 u15 u16 u17 u18 u19 u20 u21 u22 u23 u24 u25 u26 u27 u28 u29 u30 u31 u32 u33 u34 u35 u36 u37 u38 u39 u40 u41 u42 u43 u44 u45 u46 u47 u48 u49 u50 u51 u52 u53 u54 u55 u56 u57 u58 u59 u60 u61 : Value), a' = { tmps := #[.string s, u1, .pointer (some ⟨w.heap.size, 0, none⟩), u3, u4, u5, u6, u7, u8, u9, u10, u11, u12, u13, u14, u15, u16, u17, u18, u19, u20, u21, u22, u23, u24, u25, u26, u27, u28, u29, u30, u31, u32, u33, u34, u35, u36, u37, u38, u39, u40, u41, u42, u43, u44, u45, u46, u47, u48, u49, u50, u51, u52, u53, u54, u55, u56, u57, u58, u59, u60, u61], defers := [] }) ∧ Blk w' w.heap.size (.int .i64 0) (.int .i64 0) (.int .i64 0) (.int .i64 0) (.string ⟨#[]⟩) (.string ⟨#[]⟩) (.int .i64 0) (.int .i64 0) (.bool false) ∧ Below w.heap.size w w' ∧ rGood s = false) (fun _ _ => 0) rfl ?_ ?_
  · by_cases h13 : s.size < 13
    · have h13' : (s.size : Int) < 13 := by omega
      have HN : Hid (rGood s = false) := no13 (by omega)
      go_wp2
      go_step3
      exact ⟨rfl, ⟨_, _, _, _, _, _, _, _, _, _, _, _, _, _, _, _, _, _, _, _, _, _, _, _, _, _, _, _, _, _, _, _, _, _, _, _, _, _, _, _, _, _, _, _, _, _, _, _, _, _, _, _, _, _, _, _, _, _, _, _, rfl⟩, (Blk.new w _ _ _ _ _ _ _ _ _).alloc _, (by repeat (first | refine Below.setCell ?_ (by (try simp) <;> omega) _ | refine Below.alloc ?_ (by (try simp) <;> omega) _ | refine Below.drew ?_ | assumption | exact Below.refl _ _ | refine Below.trans ?_ (Below.mono (by assumption) (by (try simp) <;> omega)))), HN.out⟩
    have h13' : ¬ (s.size : Int) < 13 := by omega
    have j0 : 0 < s.size := by omega
    have j1 : 1 < s.size := by omega
    have j2 : 2 < s.size := by omega
    have i0 : (0 : Int) < (s.size : Int) := by omega
    have i1 : (1 : Int) < (s.size : Int) := by omega
    have i2 : (2 : Int) < (s.size : Int) := by omega
    have y0 := byte_bd s[0]
    have y1 := byte_bd s[1]
    have y2 := byte_bd s[2]
    have E0 : Hid (s[0].toNat = b8 s 0 ∧ s[1].toNat = b8 s 1 ∧ s[2].toNat = b8 s 2) := ⟨b8_eq s 0 j0, b8_eq s 1 j1, b8_eq s 2 j2⟩
    go_upto_region 5 with fail
    go_region
    go_wp2_with fail
    rw [E0.out.1, E0.out.2.1, E0.out.2.2]
    clear y0 y1 y2 E0
    have z3 : (s.extract 3 5).size = 2 := by rw [ByteArray.size_extract]; omega
    refine (readWord_any _ _ (by omega)).mono ?_
    rintro r w1 ⟨rfl, rfl⟩
    rw [z3, rdN_extract s 3 5 (by omega) 2 (by omega)]
    have htx := rdN_two_bd s 3
    generalize hTX : rdN s 3 2 = tx at *
    have TX : Hid (rdN s 3 2 = tx) := hTX
    clear hTX z3
    go_wp2_with fail
    have z8 : (s.extract 5 13).size = 8 := by rw [ByteArray.size_extract]; omega
    refine (readWord_any _ _ (by omega)).mono ?_
    rintro r w1 ⟨rfl, rfl⟩
    rw [z8, rdN_extract s 5 13 (by omega) 8 (by omega)]
    have hx := rdN_bd s 5 8
    generalize hX : rdN s 5 8 = x at *
    have X : Hid (rdN s 5 8 = x) := hX
    clear hX z8
    go_wp2_with fail
    by_cases hxl : x < 35184372088832
    case neg =>
      have HN : Hid (rGood s = false) := noX (by rw [X.out]; exact hxl)
      refine (unpack_no _ _ hx.1 hx.2 (by omega)).mono ?_
      rintro r w2 ⟨rfl, hb2⟩
      have m2 : Blk w2 (w.heap.size + 1) (.int .i64 (b8 s 0 : Int)) (.int .i64 (b8 s 1 : Int)) (.int .i64 (b8 s 2 : Int)) (.int .i64 tx) (.string ⟨#[]⟩) (.string ⟨#[]⟩) (.int .i64 0) (.int .i64 0) (.bool false) := (Blk.new2 w _ _ _ _ _ _ _ _ _ _).drew.below hb2 (by simp)
      have q2 : Blk w2 w.heap.size (.int .i64 0) (.int .i64 0) (.int .i64 0) (.int .i64 0) (.string ⟨#[]⟩) (.string ⟨#[]⟩) (.int .i64 0) (.int .i64 0) (.bool false) := ((Blk.new w _ _ _ _ _ _ _ _ _).alloc _).drew.below hb2 (by simp; omega)
      have B2 : Hid (Below w.heap.size w w2) := (by repeat (first | refine Below.setCell ?_ (by (try simp) <;> omega) _ | refine Below.alloc ?_ (by (try simp) <;> omega) _ | refine Below.drew ?_ | assumption | exact Below.refl _ _ | refine Below.trans ?_ (Below.mono (by assumption) (by (try simp) <;> omega))))
      have HQ : Hid (Blk w2 w.heap.size (.int .i64 0) (.int .i64 0) (.int .i64 0) (.int .i64 0) (.string ⟨#[]⟩) (.string ⟨#[]⟩) (.int .i64 0) (.int .i64 0) (.bool false)) := q2
      obtain ⟨c0, c1, c2, c3, c4, c5, c6, c7, c8⟩ := m2.cells
      have fz := m2.frozen
      clear hb2 m2 q2 c0 c1 c2 c3 c4 c5
      go_wp2
      have hB := B2.out
      go_step3
      exact ⟨rfl, ⟨_, _, _, _, _, _, _, _, _, _, _, _, _, _, _, _, _, _, _, _, _, _, _, _, _, _, _, _, _, _, _, _, _, _, _, _, _, _, _, _, _, _, _, _, _, _, _, _, _, _, _, _, _, _, _, _, _, _, _, _, rfl⟩, ((HQ.out.other (by omega)).other (by omega)).other (by omega), (by repeat (first | refine Below.setCell ?_ (by (try simp) <;> omega) _ | refine Below.alloc ?_ (by (try simp) <;> omega) _ | refine Below.drew ?_ | assumption | exact Below.refl _ _ | refine Below.trans ?_ (Below.mono (by assumption) (by (try simp) <;> omega)))), HN.out⟩
    refine (unpack_yes _ _ hx.1 hx.2 hxl).mono ?_
    rintro r w2 ⟨rfl, hb2⟩
    have m2 : Blk w2 (w.heap.size + 1) (.int .i64 (b8 s 0 : Int)) (.int .i64 (b8 s 1 : Int)) (.int .i64 (b8 s 2 : Int)) (.int .i64 tx) (.string ⟨#[]⟩) (.string ⟨#[]⟩) (.int .i64 0) (.int .i64 0) (.bool false) := (Blk.new2 w _ _ _ _ _ _ _ _ _ _).drew.below hb2 (by simp)
    have q2 : Blk w2 w.heap.size (.int .i64 0) (.int .i64 0) (.int .i64 0) (.int .i64 0) (.string ⟨#[]⟩) (.string ⟨#[]⟩) (.int .i64 0) (.int .i64 0) (.bool false) := ((Blk.new w _ _ _ _ _ _ _ _ _).alloc _).drew.below hb2 (by simp; omega)
    have B2 : Below w.heap.size w w2 := (by repeat (first | refine Below.setCell ?_ (by (try simp) <;> omega) _ | refine Below.alloc ?_ (by (try simp) <;> omega) _ | refine Below.drew ?_ | assumption | exact Below.refl _ _ | refine Below.trans ?_ (Below.mono (by assumption) (by (try simp) <;> omega))))
    have W3 : Hid (Blk (((w2.setCell ⟨w.heap.size + 1, 6, none⟩ (.int .i64 (x / 33554432))).setCell ⟨w.heap.size + 1, 7, none⟩ (.int .i64 (unS x))).setCell ⟨w.heap.size + 1, 8, none⟩ (.bool (unL x))) (w.heap.size + 1) (.int .i64 (b8 s 0 : Int)) (.int .i64 (b8 s 1 : Int)) (.int .i64 (b8 s 2 : Int)) (.int .i64 tx) (.string ⟨#[]⟩) (.string ⟨#[]⟩) (.int .i64 (x / 33554432)) (.int .i64 (unS x)) (.bool (unL x)) ∧ Blk (((w2.setCell ⟨w.heap.size + 1, 6, none⟩ (.int .i64 (x / 33554432))).setCell ⟨w.heap.size + 1, 7, none⟩ (.int .i64 (unS x))).setCell ⟨w.heap.size + 1, 8, none⟩ (.bool (unL x))) w.heap.size (.int .i64 0) (.int .i64 0) (.int .i64 0) (.int .i64 0) (.string ⟨#[]⟩) (.string ⟨#[]⟩) (.int .i64 0) (.int .i64 0) (.bool false) ∧ Below w.heap.size w (((w2.setCell ⟨w.heap.size + 1, 6, none⟩ (.int .i64 (x / 33554432))).setCell ⟨w.heap.size + 1, 7, none⟩ (.int .i64 (unS x))).setCell ⟨w.heap.size + 1, 8, none⟩ (.bool (unL x)))) := ⟨m2.set6.set7.set8, ((q2.other (by omega)).other (by omega)).other (by omega), (by repeat (first | refine Below.setCell ?_ (by (try simp) <;> omega) _ | refine Below.alloc ?_ (by (try simp) <;> omega) _ | refine Below.drew ?_ | assumption | exact Below.refl _ _ | refine Below.trans ?_ (Below.mono (by assumption) (by (try simp) <;> omega))))⟩
    obtain ⟨c0, c1, c2, c3, c4, c5, c6, c7, c8⟩ := m2.cells
    have fz := m2.frozen
    clear hb2 m2 q2 c0 c1 c2 c3 c4 c5 B2
    go_wp2_with fail
    clear c6 c7 c8 fz
    generalize hw3 : (((w2.setCell ⟨w.heap.size + 1, 6, none⟩ (.int .i64 (x / 33554432))).setCell ⟨w.heap.size + 1, 7, none⟩ (.int .i64 (unS x))).setCell ⟨w.heap.size + 1, 8, none⟩ (.bool (unL x))) = w3 at *
    clear hw3
    obtain ⟨m3, q3, B3⟩ := W3.out
    by_cases hk13 : 13 < s.size ∧ 13 + 1 + b8 s 13 ≤ s.size
    case neg =>
      have HN : Hid (rGood s = false) := by
        show rGood s = false
        by_cases h14 : s.size < 14
        · exact no13 h14
        · exact noK (by unfold rK; omega)
      have c := readText_no s 13 w3 hs (by omega) hk13
      rw [show ((13 : Nat) : Int) = 13 from rfl] at c
      refine c.mono ?_
      rintro r w4 ⟨rfl, hb4⟩
      have m4 := m3.below hb4 m3.lt
      have HQ : Hid (Blk w4 w.heap.size (.int .i64 0) (.int .i64 0) (.int .i64 0) (.int .i64 0) (.string ⟨#[]⟩) (.string ⟨#[]⟩) (.int .i64 0) (.int .i64 0) (.bool false)) := q3.below hb4 q3.lt
      have HB : Hid (Below w.heap.size w w4) := B3.trans (hb4.mono B3.size)
      obtain ⟨c0, c1, c2, c3, c4, c5, c6, c7, c8⟩ := m4.cells
      have fz := m4.frozen
      clear W3 m3 q3 B3 c hb4 m4 c0 c1 c2 c3 c5 c6 c7 c8
      go_wp2
      have hB := HB.out
      go_step3
      exact ⟨rfl, ⟨_, _, _, _, _, _, _, _, _, _, _, _, _, _, _, _, _, _, _, _, _, _, _, _, _, _, _, _, _, _, _, _, _, _, _, _, _, _, _, _, _, _, _, _, _, _, _, _, _, _, _, _, _, _, _, _, _, _, _, _, rfl⟩, HQ.out.other (by omega), (by repeat (first | refine Below.setCell ?_ (by (try simp) <;> omega) _ | refine Below.alloc ?_ (by (try simp) <;> omega) _ | refine Below.drew ?_ | assumption | exact Below.refl _ _ | refine Below.trans ?_ (Below.mono (by assumption) (by (try simp) <;> omega)))), HN.out⟩
    have cT : Calls Try.prog 68 #[.string s, .int .i64 13] w3 fun r w' => r = .returned (.tuple #[.string (rKey s), .int .i64 (rK s), .bool true]) ∧ Below w3.heap.size w3 w' := by
      have c := readText_yes s 13 w3 hs hk13.1 hk13.2
      rw [show 13 + 1 + b8 s 13 = rK s from by unfold rK; omega] at c
      exact c
    have hkp : rK s ≤ 269 := by have := b8_bd s 13; unfold rK; omega
    refine cT.mono ?_
    rintro r w4 ⟨rfl, hb4⟩
    have m4 := m3.below hb4 m3.lt
    have W4 : Hid (Blk (w4.setCell ⟨w.heap.size + 1, 4, none⟩ (.string (rKey s))) (w.heap.size + 1) (.int .i64 (b8 s 0 : Int)) (.int .i64 (b8 s 1 : Int)) (.int .i64 (b8 s 2 : Int)) (.int .i64 tx) (.string (rKey s)) (.string ⟨#[]⟩) (.int .i64 (x / 33554432)) (.int .i64 (unS x)) (.bool (unL x)) ∧ Blk (w4.setCell ⟨w.heap.size + 1, 4, none⟩ (.string (rKey s))) w.heap.size (.int .i64 0) (.int .i64 0) (.int .i64 0) (.int .i64 0) (.string ⟨#[]⟩) (.string ⟨#[]⟩) (.int .i64 0) (.int .i64 0) (.bool false) ∧ Below w.heap.size w (w4.setCell ⟨w.heap.size + 1, 4, none⟩ (.string (rKey s)))) := ⟨m4.set4, (q3.below hb4 q3.lt).other (by omega), (B3.trans (hb4.mono B3.size)).setCell (by simp) _⟩
    obtain ⟨c0, c1, c2, c3, c4, c5, c6, c7, c8⟩ := m4.cells
    have fz := m4.frozen
    clear W3 m3 q3 B3 cT hb4 m4 c0 c1 c2 c3 c5 c6 c7 c8
    go_wp2_with fail
    clear c4 fz
    generalize hw4 : w4.setCell ⟨w.heap.size + 1, 4, none⟩ (.string (rKey s)) = w5 at *
    clear hw4
    obtain ⟨m5, q5, B5⟩ := W4.out
    by_cases hke : rK s < s.size ∧ rK s + 1 + b8 s (rK s) ≤ s.size
    case neg =>
      have HN : Hid (rGood s = false) := by
        show rGood s = false
        by_cases h14 : rK s < s.size
        · exact noE (fun h => hke ⟨h14, h⟩)
        · exact noK h14
      refine (readText_no s (rK s) w5 hs (by omega) hke).mono ?_
      rintro r w6 ⟨rfl, hb6⟩
      have m6 := m5.below hb6 m5.lt
      have HQ : Hid (Blk w6 w.heap.size (.int .i64 0) (.int .i64 0) (.int .i64 0) (.int .i64 0) (.string ⟨#[]⟩) (.string ⟨#[]⟩) (.int .i64 0) (.int .i64 0) (.bool false)) := q5.below hb6 q5.lt
      have HB : Hid (Below w.heap.size w w6) := B5.trans (hb6.mono B5.size)
      obtain ⟨c0, c1, c2, c3, c4, c5, c6, c7, c8⟩ := m6.cells
      have fz := m6.frozen
      clear W4 m5 q5 B5 hb6 m6 c0 c1 c2 c3 c4 c6 c7 c8
      go_wp2
      have hB := HB.out
      go_step3
      exact ⟨rfl, ⟨_, _, _, _, _, _, _, _, _, _, _, _, _, _, _, _, _, _, _, _, _, _, _, _, _, _, _, _, _, _, _, _, _, _, _, _, _, _, _, _, _, _, _, _, _, _, _, _, _, _, _, _, _, _, _, _, _, _, _, _, rfl⟩, HQ.out.other (by omega), (by repeat (first | refine Below.setCell ?_ (by (try simp) <;> omega) _ | refine Below.alloc ?_ (by (try simp) <;> omega) _ | refine Below.drew ?_ | assumption | exact Below.refl _ _ | refine Below.trans ?_ (Below.mono (by assumption) (by (try simp) <;> omega)))), HN.out⟩
    refine (readText_yes s (rK s) w5 hs hke.1 hke.2).mono ?_
    rintro r w6 ⟨rfl, hb6⟩
    have hE : Hid (rEnd s ≤ s.size) := hke.2
    have hep : (rK s + 1 + b8 s (rK s) : Nat) ≤ 1048576 := by omega
    have m6 := m5.below hb6 m5.lt
    have W6 : Hid (Blk (w6.setCell ⟨w.heap.size + 1, 5, none⟩ (.string (rVal s))) (w.heap.size + 1) (.int .i64 (b8 s 0 : Int)) (.int .i64 (b8 s 1 : Int)) (.int .i64 (b8 s 2 : Int)) (.int .i64 tx) (.string (rKey s)) (.string (rVal s)) (.int .i64 (x / 33554432)) (.int .i64 (unS x)) (.bool (unL x)) ∧ Blk (w6.setCell ⟨w.heap.size + 1, 5, none⟩ (.string (rVal s))) w.heap.size (.int .i64 0) (.int .i64 0) (.int .i64 0) (.int .i64 0) (.string ⟨#[]⟩) (.string ⟨#[]⟩) (.int .i64 0) (.int .i64 0) (.bool false) ∧ Below w.heap.size w (w6.setCell ⟨w.heap.size + 1, 5, none⟩ (.string (rVal s)))) := ⟨m6.set5, (q5.below hb6 q5.lt).other (by omega), (B5.trans (hb6.mono B5.size)).setCell (by simp) _⟩
    rw [show s.extract (rK s + 1) (rK s + 1 + b8 s (rK s)) = rVal s from rfl, show rK s + 1 + b8 s (rK s) = rEnd s from rfl]
    obtain ⟨c0, c1, c2, c3, c4, c5, c6, c7, c8⟩ := m6.cells
    have fz := m6.frozen
    obtain ⟨d0, d1, d2, d3, d4, d5, d6, d7, d8⟩ := W6.out.1.cells
    clear W4 m5 q5 B5 hb6 m6 c0 c1 c2 c3 c4 c6 c7 c8
    go_wp2_with fail
    clear c5 fz
    have hkl : (rKey s).size ≤ maxLen := by unfold rKey maxLen; rw [ByteArray.size_extract]; omega
    have hvl : (rVal s).size ≤ maxLen := by unfold rVal maxLen; rw [ByteArray.size_extract]; omega
    generalize hw6 : w6.setCell ⟨w.heap.size + 1, 5, none⟩ (.string (rVal s)) = w7 at *
    clear hw6
    obtain ⟨m7, q7, B7⟩ := W6.out
    refine (goodMsg_any _ _ _ _ _ _ _ _ _ _ hkl hvl).mono ?_
    rintro r w8 ⟨rfl, hb8⟩
    have m8 := m7.below hb8 m7.lt
    have q8 := q7.below hb8 q7.lt
    have HB : Hid (Below w.heap.size w w8) := B7.trans (hb8.mono B7.size)
    have HQ : Hid (Blk w8 w.heap.size (.int .i64 0) (.int .i64 0) (.int .i64 0) (.int .i64 0) (.string ⟨#[]⟩) (.string ⟨#[]⟩) (.int .i64 0) (.int .i64 0) (.bool false)) := q8
    clear d0 d1 d2 d3 d4 d5 d6 d7 d8 W6 m7 q7 B7 hb8
    cases hgm : goodM (b8 s 0) (b8 s 1) (b8 s 2) tx (rKey s) (rVal s) (x / 33554432) (unS x)
    · have HN : Hid (rGood s = false) := noG (by unfold rE; rw [TX.out, X.out]; exact hgm)
      clear m8 q8
      go_wp2
      have hB := HB.out
      go_step3
      exact ⟨rfl, ⟨_, _, _, _, _, _, _, _, _, _, _, _, _, _, _, _, _, _, _, _, _, _, _, _, _, _, _, _, _, _, _, _, _, _, _, _, _, _, _, _, _, _, _, _, _, _, _, _, _, _, _, _, _, _, _, _, _, _, _, _, rfl⟩, HQ.out, hB, HN.out⟩
    · have HY : Hid (rGood s = true) := yesG (by omega) (by rw [X.out]; exact hxl) hke.1 hke.2 (by unfold rE; rw [TX.out, X.out]; exact hgm)
      obtain ⟨c0, c1, c2, c3, c4, c5, c6, c7, c8⟩ := m8.cells
      obtain ⟨d0, d1, d2, d3, d4, d5, d6, d7, d8⟩ := q8.cells
      have fz := q8.frozen
      clear m8 q8 hgm
      go_wp2
      have hB := HB.out
      simp only [Exit.jump]
      exact bodyPost_ret (v := .tuple #[.agg #[.int .i64 (b8 s 0 : Int), .int .i64 (b8 s 1 : Int), .int .i64 (b8 s 2 : Int), .int .i64 tx, .string (rKey s), .string (rVal s), .int .i64 (x / 33554432), .int .i64 (unS x), .bool (unL x)], .int .i64 (rEnd s)]) (by simp [results, Try.results29, go_sem, d0, d1, d2, d3, d4, d5, d6, d7, d8]) rfl ⟨by rw [← ans_yes HY.out]; unfold rE; rw [TX.out, X.out], (by repeat (first | refine Below.setCell ?_ (by (try simp) <;> omega) _ | refine Below.alloc ?_ (by (try simp) <;> omega) _ | refine Below.drew ?_ | assumption | exact Below.refl _ _ | refine Below.trans ?_ (Below.mono (by assumption) (by (try simp) <;> omega))))⟩
  · rintro a' w' ⟨⟨u1, u3, u4, u5, u6, u7, u8, u9, u10, u11, u12, u13, u14, u15, u16, u17, u18, u19, u20, u21, u22, u23, u24, u25, u26, u27, u28, u29, u30, u31, u32, u33, u34, u35, u36, u37, u38, u39, u40, u41, u42, u43, u44, u45, u46, u47, u48, u49, u50, u51, u52, u53, u54, u55, u56, u57, u58, u59, u60, u61, rfl⟩, hq, hB, hN⟩
    have HN : Hid (rGood s = false) := hN
    have HB : Hid (Below w.heap.size w w') := hB
    obtain ⟨d0, d1, d2, d3, d4, d5, d6, d7, d8⟩ := hq.cells
    have fz := hq.frozen
    clear hq hN hB
    go_wp2
    have hB := HB.out
    simp only [Exit.jump]
    exact bodyPost_ret (v := .tuple #[.agg #[.int .i64 0, .int .i64 0, .int .i64 0, .int .i64 0, .string ⟨#[]⟩, .string ⟨#[]⟩, .int .i64 0, .int .i64 0, .bool false], .int .i64 0]) (by simp [results, Try.results29, go_sem, d0, d1, d2, d3, d4, d5, d6, d7, d8]) rfl ⟨ans_no HN.out, (by repeat (first | refine Below.setCell ?_ (by (try simp) <;> omega) _ | refine Below.alloc ?_ (by (try simp) <;> omega) _ | refine Below.drew ?_ | assumption | exact Below.refl _ _ | refine Below.trans ?_ (Below.mono (by assumption) (by (try simp) <;> omega))))⟩
end Go.Proofs.Ytbklhmeaoigneaa
