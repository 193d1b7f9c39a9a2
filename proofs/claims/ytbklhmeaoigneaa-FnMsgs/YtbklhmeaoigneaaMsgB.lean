/- The contracts of MsgBytes on both sides and of the specification's l1Bytes. -/
import Derived.Test.YtbklhmeaoigneaaApp
namespace Go.Proofs.Ytbklhmeaoigneaa
open Go.RowKit
set_option linter.unusedVariables false

theorem goodM_parts {kd fr to tx : Int} {key val : ByteArray} {e s : Int} (h : goodM kd fr to tx key val e s = true) : key.size ≤ 8 ∧ val.size ≤ 20 ∧ goodT e s = true ∧ 0 ≤ tx ∧ tx ≤ 65535 ∧ (0 ≤ kd ∧ kd ≤ 255) ∧ (0 ≤ fr ∧ fr ≤ 255) ∧ (0 ≤ to ∧ to ≤ 255) := by
  simp only [goodM, keyOk, valOk, inR, Bool.and_eq_true, decide_eq_true_eq] at h
  obtain ⟨⟨⟨⟨⟨⟨h1, h2⟩, h3⟩, h4⟩, h5⟩, h6⟩, h7⟩ := h
  exact ⟨by omega, by omega, h7, by omega, by omega, by omega, by omega, by omega⟩
theorem mb_length (kd fr to tx : Int) (key val : ByteArray) (e s : Int) (b : Bool) : (mb kd fr to tx key val e s b).length = 15 + key.size + val.size := by
  have h1 : key.data.toList.length = key.size := by rw [Array.length_toList]; rfl
  have h2 : val.data.toList.length = val.size := by rw [Array.length_toList]; rfl
  simp only [mb, List.length_append, List.length_cons, List.length_nil, wordFrom_length, h1, h2]; omega
theorem conv_bytes {w : World} {g n cap : Nat} {l : List UInt8} (hn : n = l.length) (h : Lib.Bytes w g 0 ⟨l.toArray⟩) :
    (convert 22 9 (.slice (some ⟨g, 0, none⟩) n cap)).run Try.prog w = .ok (.string ⟨l.toArray⟩) w := by
  subst hn
  exact Lib.run_convert_whole w 22 5 9 Try.underlying22 Try.underlying5 Try.underlying9 g 0 ⟨l.toArray⟩ h cap

set_option maxHeartbeats 1000000 in
theorem msgBytes_no (kd fr to tx : Int) (key val : ByteArray) (e s : Int) (b : Bool) (w : World) (hk : key.size ≤ maxLen) (hv : val.size ≤ maxLen) (hg : goodM kd fr to tx key val e s = false) :
    Calls Try.prog 27 #[.agg #[.int .i64 kd, .int .i64 fr, .int .i64 to, .int .i64 tx, .string key, .string val, .int .i64 e, .int .i64 s, .bool b]] w fun r w' => r = .returned (.tuple #[.string ⟨#[]⟩, .bool false]) ∧ Below w.heap.size w w' := by
  go_enter Try.func27, Try.ntmps27
  go_wp2_with (go_at_call 45; refine (goodMsg_any _ _ _ _ _ _ _ _ _ _ hk hv).mono ?_; rintro r w1 ⟨rfl, hb⟩)
  go_ret2
  exact ⟨rfl, (by repeat (first | refine Below.setCell ?_ (by (try simp) <;> omega) _ | refine Below.alloc ?_ (by (try simp) <;> omega) _ | refine Below.drew ?_ | assumption | exact Below.refl _ _ | refine Below.trans ?_ (Below.mono (by assumption) (by (try simp) <;> omega))))⟩
set_option maxHeartbeats 1000000 in
theorem msgBytes_yes (kd fr to tx : Int) (key val : ByteArray) (e s : Int) (b : Bool) (w : World) (hk : key.size ≤ maxLen) (hv : val.size ≤ maxLen) (hg : goodM kd fr to tx key val e s = true) :
    Calls Try.prog 27 #[.agg #[.int .i64 kd, .int .i64 fr, .int .i64 to, .int .i64 tx, .string key, .string val, .int .i64 e, .int .i64 s, .bool b]] w fun r w' => r = .returned (.tuple #[.string ⟨(mb kd fr to tx key val e s b).toArray⟩, .bool true]) ∧ Below w.heap.size w w' := by
  obtain ⟨hk8, hv20, hgt, ht0, ht1, _⟩ := goodM_parts hg
  go_enter Try.func27, Try.ntmps27
  go_wp2_with fail
  refine (goodMsg_any _ _ _ _ _ _ _ _ _ _ hk hv).mono ?_
  rintro r w1 ⟨rfl, hb1⟩
  have X1 : Hid (w1.heap[w.heap.size]? = some (Obj.cells #[.int .i64 kd, .int .i64 fr, .int .i64 to, .int .i64 tx, .string key, .string val, .int .i64 e, .int .i64 s, .bool b] 43 (0, 0))) := (hb1.block _ (by simp)).trans (heap_new _ _)
  have c0 := Go.Joins.cell_of_block X1.out 0
  have c1 := Go.Joins.cell_of_block X1.out 1
  have c2 := Go.Joins.cell_of_block X1.out 2
  have c3 := Go.Joins.cell_of_block X1.out 3
  have c4 := Go.Joins.cell_of_block X1.out 4
  have c5 := Go.Joins.cell_of_block X1.out 5
  have c6 := Go.Joins.cell_of_block X1.out 6
  have c7 := Go.Joins.cell_of_block X1.out 7
  have c8 := Go.Joins.cell_of_block X1.out 8
  simp at c0 c1 c2 c3 c4 c5 c6 c7 c8
  have B1 : Hid (Below w.heap.size w w1) := (by repeat (first | refine Below.setCell ?_ (by (try simp) <;> omega) _ | refine Below.alloc ?_ (by (try simp) <;> omega) _ | refine Below.drew ?_ | assumption | exact Below.refl _ _ | refine Below.trans ?_ (Below.mono (by assumption) (by (try simp) <;> omega))))
  clear hb1
  go_wp2_with fail
  refine (appendMsg_any w1.heap.size _ [] _ _ _ _ _ _ _ _ _ _ (by simp) (by omega) (by omega) hgt ht0 ht1 (Nat.le_refl _) (Own8.nil _ _ _)).mono ?_
  rintro r w2 ⟨v2, rfl, o2, k2⟩
  have B2 : Hid (Below w.heap.size w w2) := B1.out.trans (k2.1.mono B1.out.size)
  rw [List.nil_append] at o2
  have hlen := mb_length kd fr to tx key val e s b
  obtain ⟨g, cap, rfl, hB⟩ := o2.bytes (by omega)
  have hcv := conv_bytes (cap := cap) rfl hB
  clear o2 k2 hB hlen c0 c1 c2 c3 c4 c5 c6 c7 c8
  generalize hL : mb kd fr to tx key val e s b = L at *
  have HL : Hid (mb kd fr to tx key val e s b = L) := hL
  clear hL
  go_wp2
  go_ret2
  exact ⟨by rw [HL.out]; rfl, B2.out⟩

def head5 (kd fr to tx : Int) : List UInt8 := [by8 kd, by8 fr, by8 to, by8 (tx / 256), by8 tx]
theorem head5_eq (kd fr to tx : Int) : head5 kd fr to tx = [by8 kd, by8 fr, by8 to] ++ wordFrom tx 2 := by simp [head5, wordFrom]
theorem conv_one (W : World) (y : Int) (h0 : 0 ≤ y) (h1 : y ≤ 255) :
    (convert 22 9 (.slice (some ⟨W.heap.size, 0, none⟩) 1 1)).run Try.prog (W.alloc (.cells #[.int .u8 y] 5)) = .ok (.string ⟨#[by8 y]⟩) (W.alloc (.cells #[.int .u8 y] 5)) := by
  refine conv_bytes (l := [by8 y]) rfl (fun i hi => ?_)
  have hi0 : i = 0 := by have : i < 1 := hi; omega
  subst hi0
  rw [World.cell?_alloc_new]
  show some (Value.int .u8 y) = some (Value.int .u8 ((by8 y).toNat : Int))
  rw [← by8_byte y h0 h1]
theorem cat_mb {kd fr to tx : Int} {key val : ByteArray} {e s : Int} {b : Bool} {pre : List UInt8} (h : pre = head5 kd fr to tx ++ wordFrom (packW e s b) 8) :
    (((((⟨pre.toArray⟩ : ByteArray) ++ ⟨#[by8 key.size]⟩) ++ key) ++ ⟨#[by8 val.size]⟩) ++ val) = ⟨(mb kd fr to tx key val e s b).toArray⟩ := by
  apply ByteArray.ext
  apply Array.ext'
  simp only [Go.Joins.data_append]
  rw [h, head5_eq]
  simp [mb]
set_option maxHeartbeats 2000000 in
theorem l1Bytes_any (kd fr to tx : Int) (key val : ByteArray) (e s : Int) (b : Bool) (w : World) (hg : goodM kd fr to tx key val e s = true) :
    Calls Try.prog 66 #[.agg #[.int .i64 kd, .int .i64 fr, .int .i64 to, .int .i64 tx, .string key, .string val, .int .i64 e, .int .i64 s, .bool b]] w fun r w' => r = .returned (.string ⟨(mb kd fr to tx key val e s b).toArray⟩) ∧ Below w.heap.size w w' := by
  obtain ⟨hk8, hv20, hgt, ht0, ht1, hkd, hfr, hto⟩ := goodM_parts hg
  obtain ⟨i0, hi, hz0, hz1, hz2⟩ := info_parts info_u8
  have hp := packW_bd e s b
  clear hg
  go_enter Try.func66, Try.ntmps66
  go_wp2_with fail
  refine (l1Pack_any _ _ _ _).mono ?_
  rintro r w2 ⟨rfl, hb2⟩
  have X2 : Hid (w2.heap[w.heap.size]? = some (Obj.cells #[.int .i64 kd, .int .i64 fr, .int .i64 to, .int .i64 tx, .string key, .string val, .int .i64 e, .int .i64 s, .bool b] 43 (0, 0))) := (hb2.block _ (by simp; omega)).trans ((Below.heap_alloc _ _ _ (by simp)).trans (heap_new _ _))
  have O2 : Hid (Own8 w2 (w.heap.size + 1) 5 (.slice (some ⟨w.heap.size + 1, 0, none⟩) 5 5) (head5 kd fr to tx)) := by
    have h0 := World.ownsRow_lit (base := w.heap.size + 1) (e := 5) (size := 1) (w.alloc (.cells #[.int .i64 kd, .int .i64 fr, .int .i64 to, .int .i64 tx, .string key, .string val, .int .i64 e, .int .i64 s, .bool b] 43)) #[.int .u8 kd, .int .u8 fr, .int .u8 to, .int .u8 (tx / 256), .int .u8 (tx % 256)] 5 (by simp) (by unfold maxLen; omega) (by simp)
    have h1 : Own8 ((w.alloc (.cells #[.int .i64 kd, .int .i64 fr, .int .i64 to, .int .i64 tx, .string key, .string val, .int .i64 e, .int .i64 s, .bool b] 43)).alloc (.cells #[.int .u8 kd, .int .u8 fr, .int .u8 to, .int .u8 (tx / 256), .int .u8 (tx % 256)] 5)) (w.heap.size + 1) 5 (.slice (some ⟨w.heap.size + 1, 0, none⟩) 5 5) (head5 kd fr to tx) := by
      have e1 : cells8 (head5 kd fr to tx) = (#[.int .u8 kd, .int .u8 fr, .int .u8 to, .int .u8 (tx / 256), .int .u8 (tx % 256)] : Array Value).toList := by
        simp only [cells8, head5, List.map_cons, List.map_nil]
        rw [← by8_byte kd hkd.1 hkd.2, ← by8_byte fr hfr.1 hfr.2, ← by8_byte to hto.1 hto.2, ← by8_byte (tx / 256) (by omega) (by omega), ← by8_mod]
      unfold Own8
      rw [e1]
      simpa [head5] using h0
    exact h1.kep hb2 (Nat.le_refl _)
  have B2 : Hid (Below w.heap.size w w2) := (by repeat (first | refine Below.setCell ?_ (by (try simp) <;> omega) _ | refine Below.alloc ?_ (by (try simp) <;> omega) _ | refine Below.drew ?_ | assumption | exact Below.refl _ _ | refine Below.trans ?_ (Below.mono (by assumption) (by (try simp) <;> omega))))
  have hs2 : w.heap.size + 1 ≤ w2.heap.size := by have := hb2.size; simp at this; omega
  clear hb2
  go_wp2
  go_loopw [3, 5] (fun v i wr => ∃ (j : Nat) (pre : List UInt8), j ≤ 8 ∧ i = .int .i64 ((j : Int) - 1) ∧ Own8 wr (w.heap.size + 1) 5 v pre ∧ pre ++ wordFrom (packW e s b) j = head5 kd fr to tx ++ wordFrom (packW e s b) 8 ∧ pre.length = 13 - j ∧ Kep (w.heap.size + 1) 5 w2 wr) (fun _ i _ => ((intOf i) + 1).toNat)
  case atStart => exact ⟨8, head5 kd fr to tx, Nat.le_refl _, rfl, O2.out, rfl, rfl, Kep.refl _ _ _⟩
  case round =>
    obtain ⟨j, pre, hj, rfl, hO, hcat, hlen, hK⟩ := hrel
    have HH : Hid (Own8 wr (w.heap.size + 1) 5 u3 pre ∧ pre ++ wordFrom (packW e s b) j = head5 kd fr to tx ++ wordFrom (packW e s b) 8 ∧ Kep (w.heap.size + 1) 5 w2 wr) := ⟨hO, hcat, hK⟩
    have hsz : w.heap.size + 1 ≤ wr.heap.size := by have := hK.1.size; omega
    clear hO hcat hK O2
    cases j with
    | zero =>
      obtain ⟨hO, hcat, hK⟩ := HH.out
      obtain ⟨g, cap, rfl, hB⟩ := hO.bytes (by omega)
      have X3 := hK.2 _ _ _ _ X2.out (by decide)
      have c4 := Go.Joins.cell_of_block X3 4
      have c5 := Go.Joins.cell_of_block X3 5
      simp at c4 c5
      have hlt : w.heap.size < wr.heap.size := by omega
      have hlt1 : w.heap.size < wr.heap.size + 1 := by omega
      have hcv := conv_bytes (cap := cap) rfl hB
      have hcA := conv_one wr (key.size : Int) (by omega) (by omega)
      have hcB := conv_one (wr.alloc (.cells #[.int .u8 (key.size : Int)] 5)) (val.size : Int) (by omega) (by omega)
      rw [World.size_alloc] at hcB
      have HC : Hid (pre = head5 kd fr to tx ++ wordFrom (packW e s b) 8) := by show pre = head5 kd fr to tx ++ wordFrom (packW e s b) 8; simpa [wordFrom] using hcat
      have HB : Hid (Below w.heap.size w wr) := B2.out.trans (hK.1.mono (by omega))
      have HL : Hid (pre.length = 13) := by show pre.length = 13; omega
      clear hO hcat hK hB X3 X2 B2 HH hi hz0 hz1 hz2 hlen
      have q0 : (⟨pre.toArray⟩ : ByteArray).size ≤ 13 := by have := HL.out; show pre.toArray.size ≤ 13; simp; omega
      have q1 : (⟨#[by8 key.size]⟩ : ByteArray).size ≤ 1 := by show (#[by8 key.size]).size ≤ 1; simp
      have q2 : (⟨#[by8 val.size]⟩ : ByteArray).size ≤ 1 := by show (#[by8 val.size]).size ≤ 1; simp
      generalize hS0 : (⟨pre.toArray⟩ : ByteArray) = S0 at *
      generalize hS1 : (⟨#[by8 key.size]⟩ : ByteArray) = S1 at *
      generalize hS2 : (⟨#[by8 val.size]⟩ : ByteArray) = S2 at *
      have HS : Hid ((⟨pre.toArray⟩ : ByteArray) = S0 ∧ (⟨#[by8 key.size]⟩ : ByteArray) = S1 ∧ (⟨#[by8 val.size]⟩ : ByteArray) = S2) := ⟨hS0, hS1, hS2⟩
      clear hS0 hS1 hS2
      go_wp2
      have hB := HB.out
      go_ret
      exact ⟨by rw [← cat_mb HC.out, HS.out.1, HS.out.2.1, HS.out.2.2]; rfl, (by repeat (first | refine Below.setCell ?_ (by (try simp) <;> omega) _ | refine Below.alloc ?_ (by (try simp) <;> omega) _ | refine Below.drew ?_ | assumption | exact Below.refl _ _ | refine Below.trans ?_ (Below.mono (by assumption) (by (try simp) <;> omega))))⟩
    | succ j =>
      have e1 : ((↑(j + 1) : Int) - 1) = (j : Int) := by omega
      rw [e1]
      go_wp2_with (at_builtin; go_must (refine wpList_append_own _ rfl (.tmp 30) (.tmp 37) 22 rfl (w.heap.size + 1) 5 i0 (.int .u8 0) 1 1 Try.underlying22 hi hz0 hz1 hz2 rfl (by decide) u3 pre.length (cells8 pre) rfl (World.ownsRow.alloc HH.out.1 _) ⟨wr.heap.size, 0, none⟩ 1 1 [.int .u8 (packW e s b / 2 ^ (8 * j) % 256)] rfl rfl (news_new _ _ _) (by intro u hu; simp at hu; subst hu; rfl) (by unfold maxLen; omega) (by omega) (by simp; omega) ?_); intro v' w1 hown' hgrow hnil)
      have R : Hid (Own8 w1 (w.heap.size + 1) 5 v' (pre ++ [by8 (packW e s b / 2 ^ (8 * j))]) ∧ Kep (w.heap.size + 1) 5 w2 w1 ∧ (pre ++ [by8 (packW e s b / 2 ^ (8 * j))]) ++ wordFrom (packW e s b) j = head5 kd fr to tx ++ wordFrom (packW e s b) 8) := by
        obtain ⟨hO, hcat, hK⟩ := HH.out
        refine ⟨Own8.more hown' rfl (by simp [cells8, by8_mod]), (hK.alloc hsz _).trans (Kep.grown (World.ownsRow.alloc hO _) hgrow (by simp; omega)), ?_⟩
        rw [← hcat]; simp [wordFrom]
      clear hown' hgrow hnil HH
      go_wp2
      go_roundw
      case rel => exact ⟨j, _, by omega, by go_num, R.out.1, R.out.2.2, by simp; omega, R.out.2.1⟩
      case measure => simp [intOf]

set_option maxHeartbeats 1000000 in
theorem specMsgBytes_no (kd fr to tx : Int) (key val : ByteArray) (e s : Int) (b : Bool) (w : World) (hk : key.size ≤ maxLen) (hv : val.size ≤ maxLen) (hg : goodM kd fr to tx key val e s = false) :
    Calls Try.prog 28 #[.agg #[.int .i64 kd, .int .i64 fr, .int .i64 to, .int .i64 tx, .string key, .string val, .int .i64 e, .int .i64 s, .bool b]] w fun r w' => r = .returned (.tuple #[.string ⟨#[]⟩, .bool false]) ∧ Below w.heap.size w w' := by
  go_enter Try.func28, Try.ntmps28
  go_wp2_with (go_at_call 43; refine (specGoodMsg_any _ _ _ _ _ _ _ _ _ _ hk hv).mono ?_; rintro r w1 ⟨rfl, hb⟩)
  go_ret2
  exact ⟨rfl, (by repeat (first | refine Below.setCell ?_ (by (try simp) <;> omega) _ | refine Below.alloc ?_ (by (try simp) <;> omega) _ | refine Below.drew ?_ | assumption | exact Below.refl _ _ | refine Below.trans ?_ (Below.mono (by assumption) (by (try simp) <;> omega))))⟩
set_option maxHeartbeats 1000000 in
theorem specMsgBytes_yes (kd fr to tx : Int) (key val : ByteArray) (e s : Int) (b : Bool) (w : World) (hk : key.size ≤ maxLen) (hv : val.size ≤ maxLen) (hg : goodM kd fr to tx key val e s = true) :
    Calls Try.prog 28 #[.agg #[.int .i64 kd, .int .i64 fr, .int .i64 to, .int .i64 tx, .string key, .string val, .int .i64 e, .int .i64 s, .bool b]] w fun r w' => r = .returned (.tuple #[.string ⟨(mb kd fr to tx key val e s b).toArray⟩, .bool true]) ∧ Below w.heap.size w w' := by
  go_enter Try.func28, Try.ntmps28
  go_wp2_with fail
  refine (specGoodMsg_any _ _ _ _ _ _ _ _ _ _ hk hv).mono ?_
  rintro r w1 ⟨rfl, hb1⟩
  have X1 : Hid (w1.heap[w.heap.size]? = some (Obj.cells #[.int .i64 kd, .int .i64 fr, .int .i64 to, .int .i64 tx, .string key, .string val, .int .i64 e, .int .i64 s, .bool b] 43 (0, 0))) := (hb1.block _ (by simp)).trans (heap_new _ _)
  have c0 := Go.Joins.cell_of_block X1.out 0
  have c1 := Go.Joins.cell_of_block X1.out 1
  have c2 := Go.Joins.cell_of_block X1.out 2
  have c3 := Go.Joins.cell_of_block X1.out 3
  have c4 := Go.Joins.cell_of_block X1.out 4
  have c5 := Go.Joins.cell_of_block X1.out 5
  have c6 := Go.Joins.cell_of_block X1.out 6
  have c7 := Go.Joins.cell_of_block X1.out 7
  have c8 := Go.Joins.cell_of_block X1.out 8
  simp at c0 c1 c2 c3 c4 c5 c6 c7 c8
  have B1 : Hid (Below w.heap.size w w1) := (by repeat (first | refine Below.setCell ?_ (by (try simp) <;> omega) _ | refine Below.alloc ?_ (by (try simp) <;> omega) _ | refine Below.drew ?_ | assumption | exact Below.refl _ _ | refine Below.trans ?_ (Below.mono (by assumption) (by (try simp) <;> omega))))
  clear hb1
  go_wp2_with fail
  refine (l1Bytes_any _ _ _ _ _ _ _ _ _ _ hg).mono ?_
  rintro r w2 ⟨rfl, hb2⟩
  have B2 : Hid (Below w.heap.size w w2) := B1.out.trans (hb2.mono B1.out.size)
  clear hb2 c0 c1 c2 c3 c4 c5 c6 c7 c8
  generalize hL : (⟨(mb kd fr to tx key val e s b).toArray⟩ : ByteArray) = L at *
  have HL : Hid ((⟨(mb kd fr to tx key val e s b).toArray⟩ : ByteArray) = L) := hL
  clear hL
  go_wp2
  go_ret2
  exact ⟨by rw [HL.out]; rfl, B2.out⟩
end Go.Proofs.Ytbklhmeaoigneaa
