/- The contracts of appendWord, appendText and appendMsg: the bytes that they lay behind those that were there. -/
import Derived.Test.YtbklhmeaoigneaaMsgT
import Derived.Test.YtbklhmeaoigneaaByt
import Derived.Deep.DeepMust
namespace Go.Proofs.Ytbklhmeaoigneaa
open Go.RowKit
set_option linter.unusedVariables false
theorem info_u8 : (Try.prog.info? 5).map (fun i => (i.zero, i.size, i.bytes)) = some (some (.int .u8 0), 1, 1) := by kernel_rfl
set_option maxHeartbeats 1000000 in
theorem appendWord_any (base : Nat) (v : Value) (l : List UInt8) (x : Int) (size : Nat) (w : World) (hx0 : 0 ≤ x) (hx1 : x ≤ 18446744073709551615) (hs : size ≤ 8) (hl : l.length ≤ 1048576) (hbase : base ≤ w.heap.size) (hown : Own8 w base 5 v l) :
    Calls Try.prog 80 #[v, .int .u64 x, .int .i64 size] w fun r w' => ∃ v', r = .returned v' ∧ Own8 w' base 5 v' (l ++ wordFrom x size) ∧ Kep base 5 w w' := by
  obtain ⟨i0, hi, hz0, hz1, hz2⟩ := info_parts info_u8
  have HO : Hid (Own8 w base 5 v l) := hown
  clear hown
  go_enter Try.func80, Try.ntmps80
  go_wp2
  go_loopw [0, 7] (fun v i wr => ∃ (j : Nat) (pre : List UInt8), j ≤ size ∧ i = .int .i64 ((j : Int) - 1) ∧ Own8 wr base 5 v pre ∧ pre ++ wordFrom x j = l ++ wordFrom x size ∧ pre.length ≤ l.length + size - j ∧ Kep base 5 w wr) (fun _ i _ => ((intOf i) + 1).toNat)
  case atStart => exact ⟨size, l, Nat.le_refl _, rfl, HO.out, rfl, by omega, Kep.refl _ _ _⟩
  case round =>
    obtain ⟨j, pre, hj, rfl, hO, hcat, hlen, hK⟩ := hrel
    have HH : Hid (Own8 wr base 5 u0 pre ∧ pre ++ wordFrom x j = l ++ wordFrom x size ∧ Kep base 5 w wr) := ⟨hO, hcat, hK⟩
    have hsz : base ≤ wr.heap.size := by have := hK.1.size; omega
    clear hO hcat hK HO
    cases j with
    | zero =>
      go_wp2
      obtain ⟨hO, hcat, hK⟩ := HH.out
      go_ret
      exact ⟨_, rfl, by rw [← hcat]; simpa [wordFrom] using hO, hK⟩
    | succ j =>
      have e1 : ((↑(j + 1) : Int) - 1) = (j : Int) := by omega
      rw [e1]
      go_wp2_with (at_builtin; go_must (refine wpList_append_own _ rfl (.tmp 14) (.tmp 20) 22 rfl base 5 i0 (.int .u8 0) 1 1 Try.underlying22 hi hz0 hz1 hz2 rfl (by decide) u0 pre.length (cells8 pre) rfl (World.ownsRow.alloc HH.out.1 _) ⟨wr.heap.size, 0, none⟩ 1 1 [.int .u8 (x / 2 ^ (8 * j) % 256)] rfl rfl (news_new _ _ _) (by intro u hu; simp at hu; subst hu; rfl) (by unfold maxLen; omega) (by omega) (by simp; omega) ?_); intro v' w1 hown' hgrow hnil)
      have R : Hid (Own8 w1 base 5 v' (pre ++ [by8 (x / 2 ^ (8 * j))]) ∧ Kep base 5 w w1 ∧ (pre ++ [by8 (x / 2 ^ (8 * j))]) ++ wordFrom x j = l ++ wordFrom x size) := by
        obtain ⟨hO, hcat, hK⟩ := HH.out
        refine ⟨Own8.more hown' rfl (by simp [cells8, by8_mod]), (hK.alloc hsz _).trans (Kep.grown (World.ownsRow.alloc hO _) hgrow (by simp; omega)), ?_⟩
        rw [← hcat]; simp [wordFrom]
      clear hown' hgrow hnil HH
      go_wp2
      go_roundw
      case rel => exact ⟨j, _, by omega, by go_num, R.out.1, R.out.2.2, by simp; omega, R.out.2.1⟩
      case measure => simp [intOf]

set_option maxHeartbeats 1000000 in
theorem appendText_any (base : Nat) (v : Value) (l : List UInt8) (t : ByteArray) (w : World) (hl : l.length ≤ 1048576) (ht : t.size ≤ 1048576) (hbase : base ≤ w.heap.size) (hown : Own8 w base 5 v l) :
    Calls Try.prog 81 #[v, .string t] w fun r w' => ∃ v', r = .returned v' ∧ Own8 w' base 5 v' (l ++ (by8 t.size :: t.data.toList)) ∧ Kep base 5 w w' := by
  obtain ⟨i0, hi, hz0, hz1, hz2⟩ := info_parts info_u8
  have HO : Hid (Own8 w base 5 v l) := hown
  clear hown
  go_enter Try.func81, Try.ntmps81
  go_wp2_with (first
    | (at_builtin; refine wpList_append_own _ rfl (.tmp 5) (.tmp 9) 22 rfl base 5 i0 (.int .u8 0) 1 1 Try.underlying22 hi hz0 hz1 hz2 rfl (by decide) v l.length (cells8 l) rfl (World.ownsRow.alloc HO.out _) ⟨w.heap.size, 0, none⟩ 1 1 [.int .u8 ((t.size : Int) % 256)] rfl rfl (news_new _ _ _) (by intro u hu; simp at hu; subst hu; rfl) (by unfold maxLen; omega) (by omega) (by simp; omega) ?_; intro v1 w1 hown1 hgrow1 hnil1; have O1 : Hid (Own8 w1 base 5 v1 (l ++ [by8 t.size])) := Own8.more hown1 rfl (by simp [cells8, by8_mod]); have K1 : Hid (Kep base 5 w w1) := ((Kep.refl _ _ _).alloc hbase _).trans (Kep.grown (World.ownsRow.alloc HO.out _) hgrow1 (by simp; omega)); have hs1 : base ≤ w1.heap.size := (by have := K1.out.1.size; omega); clear hown1 hgrow1 hnil1 HO)
    | (at_builtin; refine Lib.wpList_append_own_string _ rfl (.tmp 11) (.tmp 12) 22 9 rfl base 5 i0 Try.underlying22 Try.underlying9 hi hz0 hz1 hz2 v1 (l ++ [by8 t.size]).length (cells8 (l ++ [by8 t.size])) rfl O1.out t rfl (by simp; unfold maxLen; omega) (by simp; omega) hs1 ?_; intro v2 w2 hown2 hgrow2 hnil2; have O2 : Hid (Own8 w2 base 5 v2 ((l ++ [by8 t.size]) ++ t.data.toList)) := Own8.more hown2 (by rw [Array.length_toList]; rfl) rfl; have K2 : Hid (Kep base 5 w w2) := K1.out.trans (Kep.grown O1.out hgrow2 hs1); clear hown2 hgrow2 hnil2))
  go_ret
  exact ⟨_, rfl, by have := O2.out; simpa using this, K2.out⟩

def mb (kd fr to tx : Int) (key val : ByteArray) (e s : Int) (b : Bool) : List UInt8 := [by8 kd, by8 fr, by8 to] ++ wordFrom tx 2 ++ wordFrom (packW e s b) 8 ++ (by8 key.size :: key.data.toList) ++ (by8 val.size :: val.data.toList)
theorem bits_bd (op : BinOp) (x y : Int) : 0 ≤ bits op .u64 x y ∧ bits op .u64 x y ≤ 18446744073709551615 := by
  have h : ∀ z : Int, 0 ≤ IntKind.u64.wrap z ∧ IntKind.u64.wrap z ≤ 18446744073709551615 := fun z => by rw [IntKind.wrap_u64]; omega
  exact h _
theorem packW_bd (e s : Int) (b : Bool) : 0 ≤ packW e s b ∧ packW e s b ≤ 18446744073709551615 := by
  unfold packW packI
  split
  · exact bits_bd _ _ _
  · exact bits_bd _ _ _

set_option maxHeartbeats 2000000 in
theorem appendMsg_any (base : Nat) (v : Value) (l : List UInt8) (kd fr to tx : Int) (key val : ByteArray) (e s : Int) (b : Bool) (w : World) (hl : l.length ≤ 100000) (hk : key.size ≤ 255) (hv : val.size ≤ 255) (hg : goodT e s = true) (ht0 : 0 ≤ tx) (ht1 : tx ≤ 65535) (hbase : base ≤ w.heap.size) (hown : Own8 w base 5 v l) :
    Calls Try.prog 65 #[v, .agg #[.int .i64 kd, .int .i64 fr, .int .i64 to, .int .i64 tx, .string key, .string val, .int .i64 e, .int .i64 s, .bool b]] w fun r w' => ∃ v', r = .returned v' ∧ Own8 w' base 5 v' (l ++ mb kd fr to tx key val e s b) ∧ Kep base 5 w w' := by
  obtain ⟨i0, hi, hz0, hz1, hz2⟩ := info_parts info_u8
  have HO : Hid (Own8 w base 5 v l) := hown
  have hp := packW_bd e s b
  clear hown
  go_enter Try.func65, Try.ntmps65
  go_wp2_with fail
  refine (pack_yes _ _ _ _ hg).mono ?_
  rintro r w1 ⟨rfl, hb1⟩
  have X1 : Hid (w1.heap[w.heap.size]? = some (Obj.cells #[.int .i64 kd, .int .i64 fr, .int .i64 to, .int .i64 tx, .string key, .string val, .int .i64 e, .int .i64 s, .bool b] 43 (0, 0))) := (hb1.block _ (by simp)).trans (heap_new _ _)
  have K1 : Hid (Kep base 5 w w1) := ((Kep.refl _ _ _).alloc hbase _).below hb1 (by simp; omega)
  have O1 : Hid (Own8 w1 base 5 v l) := (HO.out.kep ((Below.refl _ _).alloc (Nat.le_refl _) _) (Nat.le_refl _)).kep hb1 (Nat.le_refl _)
  have hs1 : base ≤ w1.heap.size := by have := K1.out.1.size; omega
  have c0 : w1.cell? ⟨w.heap.size, 0, none⟩ = some (.int .i64 kd) := by have := Go.Joins.cell_of_block X1.out 0; simpa using this
  have c1 : w1.cell? ⟨w.heap.size, 1, none⟩ = some (.int .i64 fr) := by have := Go.Joins.cell_of_block X1.out 1; simpa using this
  have c2 : w1.cell? ⟨w.heap.size, 2, none⟩ = some (.int .i64 to) := by have := Go.Joins.cell_of_block X1.out 2; simpa using this
  clear hb1 HO
  go_wp2_with (first
    | (at_builtin; refine wpList_append_own _ rfl (.tmp 13) (.tmp 23) 22 rfl base 5 i0 (.int .u8 0) 1 1 Try.underlying22 hi hz0 hz1 hz2 rfl (by decide) v l.length (cells8 l) rfl (World.ownsRow.alloc O1.out _) ⟨w1.heap.size, 0, none⟩ 3 3 [.int .u8 (kd % 256), .int .u8 (fr % 256), .int .u8 (to % 256)] rfl rfl (news_new _ _ _) (by intro u hu; simp at hu; rcases hu with rfl | rfl | rfl <;> rfl) (by unfold maxLen; omega) (by omega) (by simp; omega) ?_; intro v2 w2 hown2 hgrow2 hnil2; have O2 : Hid (Own8 w2 base 5 v2 (l ++ [by8 kd, by8 fr, by8 to])) := Own8.more hown2 rfl (by simp [cells8, by8_mod]); have K2 : Hid (Kep base 5 w1 w2) := ((Kep.refl _ _ _).alloc hs1 _).trans (Kep.grown (World.ownsRow.alloc O1.out _) hgrow2 (by simp; omega)); have X2 : Hid (w2.heap[w.heap.size]? = some (Obj.cells #[.int .i64 kd, .int .i64 fr, .int .i64 to, .int .i64 tx, .string key, .string val, .int .i64 e, .int .i64 s, .bool b] 43 (0, 0))) := K2.out.2 _ _ _ _ X1.out (by decide); have c3 : w2.cell? ⟨w.heap.size, 3, none⟩ = some (.int .i64 tx) := (by have := Go.Joins.cell_of_block X2.out 3; simpa using this); have hs2 : base ≤ w2.heap.size := (by have := K2.out.1.size; omega); clear hown2 hgrow2 hnil2 c0 c1 c2 O1))
  refine (appendWord_any base _ _ _ 2 _ ht0 (by omega) (by omega) (by simp; omega) hs2 O2.out).mono ?_
  rintro r w3 ⟨v3, rfl, o3, k3⟩
  have O3 : Hid (Own8 w3 base 5 v3 (l ++ [by8 kd, by8 fr, by8 to] ++ wordFrom tx 2)) := o3
  have K3 : Hid (Kep base 5 w2 w3) := k3
  have X3 : Hid (w3.heap[w.heap.size]? = some (Obj.cells #[.int .i64 kd, .int .i64 fr, .int .i64 to, .int .i64 tx, .string key, .string val, .int .i64 e, .int .i64 s, .bool b] 43 (0, 0))) := K3.out.2 _ _ _ _ X2.out (by decide)
  have c4 : w3.cell? ⟨w.heap.size, 4, none⟩ = some (.string key) := (by have := Go.Joins.cell_of_block X3.out 4; simpa using this)
  have hs3 : base ≤ w3.heap.size := (by have := K3.out.1.size; omega)
  clear o3 k3 c3 O2
  go_wp2_with fail
  refine (appendWord_any base _ _ _ 8 _ hp.1 hp.2 (by omega) (by simp [wordFrom_length]; omega) hs3 O3.out).mono ?_
  rintro r w4 ⟨v4, rfl, o4, k4⟩
  have O4 : Hid (Own8 w4 base 5 v4 (l ++ [by8 kd, by8 fr, by8 to] ++ wordFrom tx 2 ++ wordFrom (packW e s b) 8)) := o4
  have K4 : Hid (Kep base 5 w3 w4) := k4
  have X4 : Hid (w4.heap[w.heap.size]? = some (Obj.cells #[.int .i64 kd, .int .i64 fr, .int .i64 to, .int .i64 tx, .string key, .string val, .int .i64 e, .int .i64 s, .bool b] 43 (0, 0))) := K4.out.2 _ _ _ _ X3.out (by decide)
  have d4 : w4.cell? ⟨w.heap.size, 4, none⟩ = some (.string key) := (by have := Go.Joins.cell_of_block X4.out 4; simpa using this)
  have hs4 : base ≤ w4.heap.size := (by have := K4.out.1.size; omega)
  clear o4 k4 c4 O3
  go_wp2_with fail
  refine (appendText_any base _ _ key _ (by simp [wordFrom_length]; omega) (by omega) hs4 O4.out).mono ?_
  rintro r w5 ⟨v5, rfl, o5, k5⟩
  have O5 : Hid (Own8 w5 base 5 v5 (l ++ [by8 kd, by8 fr, by8 to] ++ wordFrom tx 2 ++ wordFrom (packW e s b) 8 ++ (by8 key.size :: key.data.toList))) := o5
  have K5 : Hid (Kep base 5 w4 w5) := k5
  have X5 : Hid (w5.heap[w.heap.size]? = some (Obj.cells #[.int .i64 kd, .int .i64 fr, .int .i64 to, .int .i64 tx, .string key, .string val, .int .i64 e, .int .i64 s, .bool b] 43 (0, 0))) := K5.out.2 _ _ _ _ X4.out (by decide)
  have c5 : w5.cell? ⟨w.heap.size, 5, none⟩ = some (.string val) := (by have := Go.Joins.cell_of_block X5.out 5; simpa using this)
  have hs5 : base ≤ w5.heap.size := (by have := K5.out.1.size; omega)
  have hkl : key.data.toList.length = key.size := by rw [Array.length_toList]; rfl
  clear o5 k5 d4 O4
  go_wp2_with fail
  refine (appendText_any base _ _ val _ (by simp [wordFrom_length]; simp at hkl; omega) (by omega) hs5 O5.out).mono ?_
  rintro r w6 ⟨v6, rfl, o6, k6⟩
  have O6 : Hid (Own8 w6 base 5 v6 (l ++ mb kd fr to tx key val e s b) ∧ Kep base 5 w w6) := ⟨by unfold mb; simpa [List.append_assoc] using o6, ((((K1.out.trans K2.out).trans K3.out).trans K4.out).trans K5.out).trans k6⟩
  clear o6 k6 O5 hkl
  go_wp2
  go_ret
  exact ⟨_, rfl, O6.out.1, O6.out.2⟩
end Go.Proofs.Ytbklhmeaoigneaa
