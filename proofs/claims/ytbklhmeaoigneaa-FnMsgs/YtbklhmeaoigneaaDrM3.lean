/- The draw of messages: DrawMsgsBytes. -/
import Derived.Test.YtbklhmeaoigneaaDrM2
import Derived.Test.YtbklhmeaoigneaaDrN
import Derived.Test.YtbklhmeaoigneaaRdS
namespace Go.Proofs.Ytbklhmeaoigneaa
open Go.RowKit
set_option linter.unusedVariables false

theorem row_push {w4 : World} {base k : Nat} {v4 : Value} {M : Nat → MsgV} {kd fr dt tx : Int} {key val : ByteArray} {e s : Int} {b : Bool} (h : w4.ownsRow base 43 9 v4 (k + 1) (cellsL (msgF M) 9 k ++ [.int .i64 kd, .int .i64 fr, .int .i64 dt, .int .i64 tx, .string key, .string val, .int .i64 e, .int .i64 s, .bool b])) :
    w4.ownsRow base 43 9 v4 (k + 1) (cellsL (msgF (fun i => if i < k then M i else ⟨kd, fr, dt, tx, key, val, e, s, b⟩)) 9 (k + 1)) := by
  rw [cellsL, cellsL_congr (G := msgF M) (fun i hi j hj => by unfold msgF; simp [hi])]
  have e1 : (List.range 9).map (msgF (fun i => if i < k then M i else ⟨kd, fr, dt, tx, key, val, e, s, b⟩) k) = [.int .i64 kd, .int .i64 fr, .int .i64 dt, .int .i64 tx, .string key, .string val, .int .i64 e, .int .i64 s, .bool b] := by
    simp [List.range_succ, msgF]
  rw [e1]; exact h

/-- Some messages, in a slice; nothing else has turned. -/
def MsPost (w : World) (r : Ending) (w' : World) : Prop := ∃ (a4 : Option Addr) (k cap4 : Nat) (M : Nat → MsgV), k ≤ 61 ∧ r = .returned (.slice a4 k cap4) ∧ Sl w' a4 k 9 (msgF M) ∧ (∀ i, i < k → (M i).key.size ≤ 21 ∧ (M i).val.size ≤ 21) ∧ Below w.heap.size w w'
set_option maxRecDepth 100000 in
set_option maxHeartbeats 4000000 in
theorem drawMsgs_any (a : Option Addr) (n cap : Nat) (X : Nat → Int) (w : World) (hn : n ≤ 9223372036854775807) (hs : Sl w a n 1 (byF X)) (hX : ∀ i, i < n → 0 ≤ X i ∧ X i ≤ 255) :
    Calls Try.prog 30 #[.slice a n cap] w fun r w' => MsPost w r w' := by
  have H0 : Hid (Cur (w.alloc (.cells #[.slice a n cap, .int .i64 0, .int .u64 0] 82)) w.heap.size a n cap X 0 ∧ Below w.heap.size w (w.alloc (.cells #[.slice a n cap, .int .i64 0, .int .u64 0] 82))) := ⟨Cur.new _ hs hn hX, Go.Joins.below_alloc1 _ _⟩
  clear hs hX
  obtain ⟨i0, hi, hz0, hzs, hz2⟩ := info_parts info_msg
  go_enter Try.func30, Try.ntmps30
  go_wp2_with fail
  refine (pick_any _ _ _ _ _ _ _ _ (by omega) (by omega) H0.out.1).mono ?_
  rintro r w1 ⟨x, hx, rfl, hd⟩
  have H1 : Hid (Cur w1 w.heap.size a n cap X 2 ∧ Below w.heap.size w w1) := ⟨hd.1, below_trn H0.out.2 hd.2 (Nat.le_refl _)⟩
  clear hd H0
  go_wp2_with fail
  refine (one_any _ _ _ _ _ _ _ _ (by omega) (by omega) H1.out.1).mono ?_
  rintro r w2 ⟨d, rfl, hd⟩
  have H2 : Hid (Cur w2 w.heap.size a n cap X 4 ∧ Below w.heap.size w w2) := ⟨hd.1, below_trn H1.out.2 hd.2 (Nat.le_refl _)⟩
  clear hd H1
  cases d
  · have H3 : Hid (Cur w2 w.heap.size a n cap X 6 ∧ Below w.heap.size w w2) := ⟨H2.out.1.up (by omega), H2.out.2⟩
    clear H2
    obtain ⟨N, hN, hNx⟩ : ∃ N : Nat, N ≤ 61 ∧ x = (N : Int) := ⟨(x).toNat, by omega, by omega⟩
    go_wp2
    try rw [hNx]
    go_loopw [5, 4] (fun i v wr => ∃ (j k : Nat) (M : Nat → MsgV), j ≤ N ∧ k ≤ j ∧ i = .int .i64 ((N : Int) - j) ∧ wr.ownsRow (w.heap.size + 1) 43 9 v k (cellsL (msgF M) 9 k) ∧ (∀ i, i < k → (M i).key.size ≤ 21 ∧ (M i).val.size ≤ 21) ∧ Cur wr w.heap.size a n cap X (8 + 50 * j) ∧ Below w.heap.size w wr) (fun i _ _ => (intOf i).toNat)
    case atStart => exact ⟨0, 0, fun _ => ⟨0, 0, 0, 0, ⟨#[]⟩, ⟨#[]⟩, 0, 0, false⟩, Nat.zero_le _, Nat.zero_le _, by simp, World.ownsRow_nil _ _ _ _, fun i hi => absurd hi (by omega), H3.out.1.up (by omega), H3.out.2⟩
    case round =>
      obtain ⟨j, k, M, hj, hkj, rfl, ho, hM, hC, hB⟩ := hrel
      clear H3
      have HM : Hid (∀ i, i < k → (M i).key.size ≤ 21 ∧ (M i).val.size ≤ 21) := hM
      clear hM
      by_cases hlt : j < N
      · have hlt' : 0 < (N : Int) - (j : Int) := by omega
        have HL : Hid (wr.ownsRow (w.heap.size + 1) 43 9 u4 k (cellsL (msgF M) 9 k) ∧ Cur wr w.heap.size a n cap X (8 + 50 * j) ∧ Below w.heap.size w wr) := ⟨ho, hC, hB⟩
        clear ho hC hB
        go_wp2_with fail
        refine (msg_any _ _ _ _ _ _ _ (by omega) HL.out.2.1).mono ?_
        rintro r w5 ⟨kd, fr, dt, tx, key, val, e, s, b, hsz, rfl, hd⟩
        unfold msgA
        have H5 : Hid (w5.ownsRow (w.heap.size + 1) 43 9 u4 k (cellsL (msgF M) 9 k) ∧ Cur w5 w.heap.size a n cap X (8 + 50 * j + 40) ∧ Below w.heap.size w w5) := ⟨own_trn HL.out.1 hd.2 (Nat.le_refl _), hd.1, below_trn HL.out.2.2 hd.2 (Nat.le_refl _)⟩
        have hz5 : w.heap.size < w5.heap.size := H5.out.2.1.2.2.2.2.2.1
        clear hd HL
        go_wp2_with fail
        refine (specGoodMsg_any _ _ _ _ _ _ _ _ _ _ (by unfold maxLen; omega) (by unfold maxLen; omega)).mono ?_
        rintro r w6 ⟨rfl, hb⟩
        have ha := Go.Joins.below_alloc1 w5 (.cells #[.int .i64 kd, .int .i64 fr, .int .i64 dt, .int .i64 tx, .string key, .string val, .int .i64 e, .int .i64 s, .bool b] 43)
        have H6 : Hid (w6.ownsRow (w.heap.size + 1) 43 9 u4 k (cellsL (msgF M) 9 k) ∧ Cur w6 w.heap.size a n cap X (8 + 50 * (j + 1)) ∧ Below w.heap.size w w6 ∧ T9 w6 w5.heap.size [.int .i64 kd, .int .i64 fr, .int .i64 dt, .int .i64 tx, .string key, .string val, .int .i64 e, .int .i64 s, .bool b]) := ⟨rowKeep (rowKeep H5.out.1 ha) hb, ((H5.out.2.1.next ha).next hb).up (by omega), (H5.out.2.2.alloc H5.out.2.2.size _).trans (hb.mono (by have := H5.out.2.2.size; simp; omega)), (T9.new w5 [.int .i64 kd, .int .i64 fr, .int .i64 dt, .int .i64 tx, .string key, .string val, .int .i64 e, .int .i64 s, .bool b] 43).next hb⟩
        have H6c : Hid (Cur w6 w.heap.size a n cap X (8 + 50 * j + 40)) := (H5.out.2.1.next ha).next hb
        have hz6 : w5.heap.size < w6.heap.size := H6.out.2.2.2.2
        clear hb ha H5
        generalize goodM kd fr dt tx key val e s = gd
        cases gd
        · go_wp2_with fail
          refine (one_any _ _ _ _ _ _ _ _ (by omega) (by omega) H6c.out).mono ?_
          rintro r w7 ⟨d, rfl, hd⟩
          have H7 : Hid (w7.ownsRow (w.heap.size + 1) 43 9 u4 k (cellsL (msgF M) 9 k) ∧ Cur w7 w.heap.size a n cap X (8 + 50 * (j + 1)) ∧ Below w.heap.size w w7 ∧ T9 w7 w5.heap.size [.int .i64 kd, .int .i64 fr, .int .i64 dt, .int .i64 tx, .string key, .string val, .int .i64 e, .int .i64 s, .bool b]) := ⟨own_trn H6.out.1 hd.2 (Nat.le_refl _), hd.1.up (by omega), below_trn H6.out.2.2.1 hd.2 (Nat.le_refl _), H6.out.2.2.2.trn hd.2 (by omega)⟩
          have hz7 : w6.heap.size ≤ w7.heap.size := hd.2.2.2.2.1
          clear hd H6 H6c
          cases d
          · go_wp2
            go_roundw
            case rel => exact ⟨j + 1, k, M, by omega, by omega, by go_num, H7.out.1, HM.out, H7.out.2.1, H7.out.2.2.1⟩
            case measure => simp [intOf]; omega
          · have HW := H7
            clear H7
            obtain ⟨⟨c0, c1, c2, c3, c4, c5, c6, c7, c8⟩, _, hcz⟩ := HW.out.2.2.2.all
            go_wp2_with (first
              | (at_builtin; refine wpList_append_own _ rfl (.tmp 29) (.tmp 31) 49 rfl (w.heap.size + 1) 43 i0 (.agg #[.int .i64 0, .int .i64 0, .int .i64 0, .int .i64 0, .string ⟨#[]⟩, .string ⟨#[]⟩, .int .i64 0, .int .i64 0, .bool false]) 9 88 Try.underlying49 hi hz0 hzs hz2 rfl (by decide) u4 k (cellsL (msgF M) 9 k) rfl (World.ownsRow.alloc HW.out.1 _) ⟨_, 0, none⟩ 1 1 [.int .i64 kd, .int .i64 fr, .int .i64 dt, .int .i64 tx, .string key, .string val, .int .i64 e, .int .i64 s, .bool b] rfl rfl (cells_at (by first | rfl | simp) _ _) (by intro u hu; simp at hu; rcases hu with rfl | rfl | rfl | rfl | rfl | rfl | rfl | rfl | rfl <;> rfl) (by unfold maxLen; omega) (by omega) (by simp <;> omega) ?_; intro v4 w4 hown hgrow hnil)
              | go_in)
            have HF : Hid (∃ M : Nat → MsgV, w4.ownsRow (w.heap.size + 1) 43 9 v4 (k + 1) (cellsL (msgF M) 9 (k + 1)) ∧ (∀ i, i < k + 1 → (M i).key.size ≤ 21 ∧ (M i).val.size ≤ 21) ∧ Cur w4 w.heap.size a n cap X (8 + 50 * (j + 1)) ∧ Below w.heap.size w w4) := by
              have hne : ∀ q, u4.ownBlock = some q → w.heap.size < q := fun q hq => by have := (HW.out.1.lt q hq).1; omega
              refine ⟨fun i => if i < k then M i else ⟨kd, fr, dt, tx, key, val, e, s, b⟩, ?_, fun i hi => ?_, (HW.out.2.1.next (Go.Joins.below_alloc1 _ _)).grown hgrow hne, (HW.out.2.2.1.alloc HW.out.2.2.1.size _).grown hgrow (by have := HW.out.2.2.1.size; simp at this ⊢; omega) (fun q hq => by have := hne q hq; omega)⟩
              · exact row_push hown
              · by_cases h : i < k
                · simp only [if_pos h]; exact HM.out i h
                · simp only [if_neg h]; exact hsz
            clear hown hgrow hnil HW c0 c1 c2 c3 c4 c5 c6 c7 c8
            go_wp2
            go_roundw
            case rel =>
              obtain ⟨M, q⟩ := HF.out
              exact ⟨j + 1, k + 1, M, by omega, by omega, by go_num, q⟩
            case measure => simp [intOf]; omega
        · have HW := H6
          clear H6 H6c
          obtain ⟨⟨c0, c1, c2, c3, c4, c5, c6, c7, c8⟩, _, hcz⟩ := HW.out.2.2.2.all
          go_wp2_with (first
            | (at_builtin; refine wpList_append_own _ rfl (.tmp 29) (.tmp 31) 49 rfl (w.heap.size + 1) 43 i0 (.agg #[.int .i64 0, .int .i64 0, .int .i64 0, .int .i64 0, .string ⟨#[]⟩, .string ⟨#[]⟩, .int .i64 0, .int .i64 0, .bool false]) 9 88 Try.underlying49 hi hz0 hzs hz2 rfl (by decide) u4 k (cellsL (msgF M) 9 k) rfl (World.ownsRow.alloc HW.out.1 _) ⟨_, 0, none⟩ 1 1 [.int .i64 kd, .int .i64 fr, .int .i64 dt, .int .i64 tx, .string key, .string val, .int .i64 e, .int .i64 s, .bool b] rfl rfl (cells_at (by first | rfl | simp) _ _) (by intro u hu; simp at hu; rcases hu with rfl | rfl | rfl | rfl | rfl | rfl | rfl | rfl | rfl <;> rfl) (by unfold maxLen; omega) (by omega) (by simp <;> omega) ?_; intro v4 w4 hown hgrow hnil)
            | go_in)
          have HF : Hid (∃ M : Nat → MsgV, w4.ownsRow (w.heap.size + 1) 43 9 v4 (k + 1) (cellsL (msgF M) 9 (k + 1)) ∧ (∀ i, i < k + 1 → (M i).key.size ≤ 21 ∧ (M i).val.size ≤ 21) ∧ Cur w4 w.heap.size a n cap X (8 + 50 * (j + 1)) ∧ Below w.heap.size w w4) := by
            have hne : ∀ q, u4.ownBlock = some q → w.heap.size < q := fun q hq => by have := (HW.out.1.lt q hq).1; omega
            refine ⟨fun i => if i < k then M i else ⟨kd, fr, dt, tx, key, val, e, s, b⟩, ?_, fun i hi => ?_, (HW.out.2.1.next (Go.Joins.below_alloc1 _ _)).grown hgrow hne, (HW.out.2.2.1.alloc HW.out.2.2.1.size _).grown hgrow (by have := HW.out.2.2.1.size; simp at this ⊢; omega) (fun q hq => by have := hne q hq; omega)⟩
            · exact row_push hown
            · by_cases h : i < k
              · simp only [if_pos h]; exact HM.out i h
              · simp only [if_neg h]; exact hsz
          clear hown hgrow hnil HW c0 c1 c2 c3 c4 c5 c6 c7 c8
          go_wp2
          go_roundw
          case rel =>
            obtain ⟨M, q⟩ := HF.out
            exact ⟨j + 1, k + 1, M, by omega, by omega, by go_num, q⟩
          case measure => simp [intOf]; omega
      · have hjn : j = N := by omega
        subst hjn
        obtain ⟨a4, cap4, rfl, hc4, hx⟩ := SRow.of ho
        have HF : Hid (SRow wr (w.heap.size + 1) wr.heap.size a4 k 9 (msgF M) ∧ Below w.heap.size w wr) := ⟨hx, hB⟩
        have hlt' : ¬ 0 < (j : Int) - (j : Int) := by omega
        clear ho hC hB hx
        go_wp2
        exact bodyPost_ret (v := .slice a4 k cap4) (by simp [results, Try.results30, go_sem]) rfl ⟨a4, k, cap4, M, by omega, rfl, HF.out.1.sl, HM.out, HF.out.2⟩
  · go_wp2_with fail
    refine (pick_any _ _ _ _ _ _ _ _ (by omega) (by omega) H2.out.1).mono ?_
    rintro r w3 ⟨y, hy, rfl, hd⟩
    have H3 : Hid (Cur w3 w.heap.size a n cap X 6 ∧ Below w.heap.size w w3) := ⟨hd.1, below_trn H2.out.2 hd.2 (Nat.le_refl _)⟩
    clear hd H2
    obtain ⟨N, hN, hNx⟩ : ∃ N : Nat, N ≤ 61 ∧ 60 + y = (N : Int) := ⟨(60 + y).toNat, by omega, by omega⟩
    go_wp2
    try rw [hNx]
    go_loopw [5, 4] (fun i v wr => ∃ (j k : Nat) (M : Nat → MsgV), j ≤ N ∧ k ≤ j ∧ i = .int .i64 ((N : Int) - j) ∧ wr.ownsRow (w.heap.size + 1) 43 9 v k (cellsL (msgF M) 9 k) ∧ (∀ i, i < k → (M i).key.size ≤ 21 ∧ (M i).val.size ≤ 21) ∧ Cur wr w.heap.size a n cap X (8 + 50 * j) ∧ Below w.heap.size w wr) (fun i _ _ => (intOf i).toNat)
    case atStart => exact ⟨0, 0, fun _ => ⟨0, 0, 0, 0, ⟨#[]⟩, ⟨#[]⟩, 0, 0, false⟩, Nat.zero_le _, Nat.zero_le _, by simp, World.ownsRow_nil _ _ _ _, fun i hi => absurd hi (by omega), H3.out.1.up (by omega), H3.out.2⟩
    case round =>
      obtain ⟨j, k, M, hj, hkj, rfl, ho, hM, hC, hB⟩ := hrel
      clear H3
      have HM : Hid (∀ i, i < k → (M i).key.size ≤ 21 ∧ (M i).val.size ≤ 21) := hM
      clear hM
      by_cases hlt : j < N
      · have hlt' : 0 < (N : Int) - (j : Int) := by omega
        have HL : Hid (wr.ownsRow (w.heap.size + 1) 43 9 u4 k (cellsL (msgF M) 9 k) ∧ Cur wr w.heap.size a n cap X (8 + 50 * j) ∧ Below w.heap.size w wr) := ⟨ho, hC, hB⟩
        clear ho hC hB
        go_wp2_with fail
        refine (msg_any _ _ _ _ _ _ _ (by omega) HL.out.2.1).mono ?_
        rintro r w5 ⟨kd, fr, dt, tx, key, val, e, s, b, hsz, rfl, hd⟩
        unfold msgA
        have H5 : Hid (w5.ownsRow (w.heap.size + 1) 43 9 u4 k (cellsL (msgF M) 9 k) ∧ Cur w5 w.heap.size a n cap X (8 + 50 * j + 40) ∧ Below w.heap.size w w5) := ⟨own_trn HL.out.1 hd.2 (Nat.le_refl _), hd.1, below_trn HL.out.2.2 hd.2 (Nat.le_refl _)⟩
        have hz5 : w.heap.size < w5.heap.size := H5.out.2.1.2.2.2.2.2.1
        clear hd HL
        go_wp2_with fail
        refine (specGoodMsg_any _ _ _ _ _ _ _ _ _ _ (by unfold maxLen; omega) (by unfold maxLen; omega)).mono ?_
        rintro r w6 ⟨rfl, hb⟩
        have ha := Go.Joins.below_alloc1 w5 (.cells #[.int .i64 kd, .int .i64 fr, .int .i64 dt, .int .i64 tx, .string key, .string val, .int .i64 e, .int .i64 s, .bool b] 43)
        have H6 : Hid (w6.ownsRow (w.heap.size + 1) 43 9 u4 k (cellsL (msgF M) 9 k) ∧ Cur w6 w.heap.size a n cap X (8 + 50 * (j + 1)) ∧ Below w.heap.size w w6 ∧ T9 w6 w5.heap.size [.int .i64 kd, .int .i64 fr, .int .i64 dt, .int .i64 tx, .string key, .string val, .int .i64 e, .int .i64 s, .bool b]) := ⟨rowKeep (rowKeep H5.out.1 ha) hb, ((H5.out.2.1.next ha).next hb).up (by omega), (H5.out.2.2.alloc H5.out.2.2.size _).trans (hb.mono (by have := H5.out.2.2.size; simp; omega)), (T9.new w5 [.int .i64 kd, .int .i64 fr, .int .i64 dt, .int .i64 tx, .string key, .string val, .int .i64 e, .int .i64 s, .bool b] 43).next hb⟩
        have H6c : Hid (Cur w6 w.heap.size a n cap X (8 + 50 * j + 40)) := (H5.out.2.1.next ha).next hb
        have hz6 : w5.heap.size < w6.heap.size := H6.out.2.2.2.2
        clear hb ha H5
        generalize goodM kd fr dt tx key val e s = gd
        cases gd
        · go_wp2_with fail
          refine (one_any _ _ _ _ _ _ _ _ (by omega) (by omega) H6c.out).mono ?_
          rintro r w7 ⟨d, rfl, hd⟩
          have H7 : Hid (w7.ownsRow (w.heap.size + 1) 43 9 u4 k (cellsL (msgF M) 9 k) ∧ Cur w7 w.heap.size a n cap X (8 + 50 * (j + 1)) ∧ Below w.heap.size w w7 ∧ T9 w7 w5.heap.size [.int .i64 kd, .int .i64 fr, .int .i64 dt, .int .i64 tx, .string key, .string val, .int .i64 e, .int .i64 s, .bool b]) := ⟨own_trn H6.out.1 hd.2 (Nat.le_refl _), hd.1.up (by omega), below_trn H6.out.2.2.1 hd.2 (Nat.le_refl _), H6.out.2.2.2.trn hd.2 (by omega)⟩
          have hz7 : w6.heap.size ≤ w7.heap.size := hd.2.2.2.2.1
          clear hd H6 H6c
          cases d
          · go_wp2
            go_roundw
            case rel => exact ⟨j + 1, k, M, by omega, by omega, by go_num, H7.out.1, HM.out, H7.out.2.1, H7.out.2.2.1⟩
            case measure => simp [intOf]; omega
          · have HW := H7
            clear H7
            obtain ⟨⟨c0, c1, c2, c3, c4, c5, c6, c7, c8⟩, _, hcz⟩ := HW.out.2.2.2.all
            go_wp2_with (first
              | (at_builtin; refine wpList_append_own _ rfl (.tmp 29) (.tmp 31) 49 rfl (w.heap.size + 1) 43 i0 (.agg #[.int .i64 0, .int .i64 0, .int .i64 0, .int .i64 0, .string ⟨#[]⟩, .string ⟨#[]⟩, .int .i64 0, .int .i64 0, .bool false]) 9 88 Try.underlying49 hi hz0 hzs hz2 rfl (by decide) u4 k (cellsL (msgF M) 9 k) rfl (World.ownsRow.alloc HW.out.1 _) ⟨_, 0, none⟩ 1 1 [.int .i64 kd, .int .i64 fr, .int .i64 dt, .int .i64 tx, .string key, .string val, .int .i64 e, .int .i64 s, .bool b] rfl rfl (cells_at (by first | rfl | simp) _ _) (by intro u hu; simp at hu; rcases hu with rfl | rfl | rfl | rfl | rfl | rfl | rfl | rfl | rfl <;> rfl) (by unfold maxLen; omega) (by omega) (by simp <;> omega) ?_; intro v4 w4 hown hgrow hnil)
              | go_in)
            have HF : Hid (∃ M : Nat → MsgV, w4.ownsRow (w.heap.size + 1) 43 9 v4 (k + 1) (cellsL (msgF M) 9 (k + 1)) ∧ (∀ i, i < k + 1 → (M i).key.size ≤ 21 ∧ (M i).val.size ≤ 21) ∧ Cur w4 w.heap.size a n cap X (8 + 50 * (j + 1)) ∧ Below w.heap.size w w4) := by
              have hne : ∀ q, u4.ownBlock = some q → w.heap.size < q := fun q hq => by have := (HW.out.1.lt q hq).1; omega
              refine ⟨fun i => if i < k then M i else ⟨kd, fr, dt, tx, key, val, e, s, b⟩, ?_, fun i hi => ?_, (HW.out.2.1.next (Go.Joins.below_alloc1 _ _)).grown hgrow hne, (HW.out.2.2.1.alloc HW.out.2.2.1.size _).grown hgrow (by have := HW.out.2.2.1.size; simp at this ⊢; omega) (fun q hq => by have := hne q hq; omega)⟩
              · exact row_push hown
              · by_cases h : i < k
                · simp only [if_pos h]; exact HM.out i h
                · simp only [if_neg h]; exact hsz
            clear hown hgrow hnil HW c0 c1 c2 c3 c4 c5 c6 c7 c8
            go_wp2
            go_roundw
            case rel =>
              obtain ⟨M, q⟩ := HF.out
              exact ⟨j + 1, k + 1, M, by omega, by omega, by go_num, q⟩
            case measure => simp [intOf]; omega
        · have HW := H6
          clear H6 H6c
          obtain ⟨⟨c0, c1, c2, c3, c4, c5, c6, c7, c8⟩, _, hcz⟩ := HW.out.2.2.2.all
          go_wp2_with (first
            | (at_builtin; refine wpList_append_own _ rfl (.tmp 29) (.tmp 31) 49 rfl (w.heap.size + 1) 43 i0 (.agg #[.int .i64 0, .int .i64 0, .int .i64 0, .int .i64 0, .string ⟨#[]⟩, .string ⟨#[]⟩, .int .i64 0, .int .i64 0, .bool false]) 9 88 Try.underlying49 hi hz0 hzs hz2 rfl (by decide) u4 k (cellsL (msgF M) 9 k) rfl (World.ownsRow.alloc HW.out.1 _) ⟨_, 0, none⟩ 1 1 [.int .i64 kd, .int .i64 fr, .int .i64 dt, .int .i64 tx, .string key, .string val, .int .i64 e, .int .i64 s, .bool b] rfl rfl (cells_at (by first | rfl | simp) _ _) (by intro u hu; simp at hu; rcases hu with rfl | rfl | rfl | rfl | rfl | rfl | rfl | rfl | rfl <;> rfl) (by unfold maxLen; omega) (by omega) (by simp <;> omega) ?_; intro v4 w4 hown hgrow hnil)
            | go_in)
          have HF : Hid (∃ M : Nat → MsgV, w4.ownsRow (w.heap.size + 1) 43 9 v4 (k + 1) (cellsL (msgF M) 9 (k + 1)) ∧ (∀ i, i < k + 1 → (M i).key.size ≤ 21 ∧ (M i).val.size ≤ 21) ∧ Cur w4 w.heap.size a n cap X (8 + 50 * (j + 1)) ∧ Below w.heap.size w w4) := by
            have hne : ∀ q, u4.ownBlock = some q → w.heap.size < q := fun q hq => by have := (HW.out.1.lt q hq).1; omega
            refine ⟨fun i => if i < k then M i else ⟨kd, fr, dt, tx, key, val, e, s, b⟩, ?_, fun i hi => ?_, (HW.out.2.1.next (Go.Joins.below_alloc1 _ _)).grown hgrow hne, (HW.out.2.2.1.alloc HW.out.2.2.1.size _).grown hgrow (by have := HW.out.2.2.1.size; simp at this ⊢; omega) (fun q hq => by have := hne q hq; omega)⟩
            · exact row_push hown
            · by_cases h : i < k
              · simp only [if_pos h]; exact HM.out i h
              · simp only [if_neg h]; exact hsz
          clear hown hgrow hnil HW c0 c1 c2 c3 c4 c5 c6 c7 c8
          go_wp2
          go_roundw
          case rel =>
            obtain ⟨M, q⟩ := HF.out
            exact ⟨j + 1, k + 1, M, by omega, by omega, by go_num, q⟩
          case measure => simp [intOf]; omega
      · have hjn : j = N := by omega
        subst hjn
        obtain ⟨a4, cap4, rfl, hc4, hx⟩ := SRow.of ho
        have HF : Hid (SRow wr (w.heap.size + 1) wr.heap.size a4 k 9 (msgF M) ∧ Below w.heap.size w wr) := ⟨hx, hB⟩
        have hlt' : ¬ 0 < (j : Int) - (j : Int) := by omega
        clear ho hC hB hx
        go_wp2
        exact bodyPost_ret (v := .slice a4 k cap4) (by simp [results, Try.results30, go_sem]) rfl ⟨a4, k, cap4, M, by omega, rfl, HF.out.1.sl, HM.out, HF.out.2⟩
end Go.Proofs.Ytbklhmeaoigneaa
