/- The draw of one message: DrawGoodMsg, DrawMsgBytes. -/
import Derived.Test.YtbklhmeaoigneaaDrM3
namespace Go.Proofs.Ytbklhmeaoigneaa
open Go.RowKit
set_option linter.unusedVariables false

def M1Post (w : World) (r : Ending) (w' : World) : Prop := ∃ (kd fr dt tx : Int) (key val : ByteArray) (e s : Int) (b : Bool), (key.size ≤ 21 ∧ val.size ≤ 21) ∧ r = .returned (msgA kd fr dt tx key val e s b) ∧ Below w.heap.size w w'
theorem Z9 (w : World) : T9 (w.alloc (.cells #[.int .i64 0, .int .i64 0, .int .i64 0, .int .i64 0, .string ⟨#[]⟩, .string ⟨#[]⟩, .int .i64 0, .int .i64 0, .bool false] 43)) w.heap.size [.int .i64 0, .int .i64 0, .int .i64 0, .int .i64 0, .string ⟨#[]⟩, .string ⟨#[]⟩, .int .i64 0, .int .i64 0, .bool false] := T9.new w [.int .i64 0, .int .i64 0, .int .i64 0, .int .i64 0, .string ⟨#[]⟩, .string ⟨#[]⟩, .int .i64 0, .int .i64 0, .bool false] 43
set_option maxRecDepth 100000 in
set_option maxHeartbeats 1000000 in
theorem drawGoodMsg_any (a : Option Addr) (n cap : Nat) (X : Nat → Int) (w : World) (hn : n ≤ 9223372036854775807) (hs : Sl w a n 1 (byF X)) (hX : ∀ i, i < n → 0 ≤ X i ∧ X i ≤ 255) :
    Calls Try.prog 64 #[.slice a n cap] w fun r w' => M1Post w r w' := by
  obtain ⟨W0, hW0⟩ : ∃ z, z = w.alloc (.cells #[.int .i64 0, .int .i64 0, .int .i64 0, .int .i64 0, .string ⟨#[]⟩, .string ⟨#[]⟩, .int .i64 0, .int .i64 0, .bool false] 43) := ⟨_, rfl⟩
  have hz0 : W0.heap.size = w.heap.size + 1 := by rw [hW0]; simp
  have hb0 : Below w.heap.size w W0 := by rw [hW0]; exact Go.Joins.below_alloc1 _ _
  have hT0 : T9 W0 w.heap.size [.int .i64 0, .int .i64 0, .int .i64 0, .int .i64 0, .string ⟨#[]⟩, .string ⟨#[]⟩, .int .i64 0, .int .i64 0, .bool false] := by rw [hW0]; exact Z9 w
  have hC0 : Cur (W0.alloc (.cells #[.slice a n cap, .int .i64 0, .int .u64 0] 82)) W0.heap.size a n cap X 0 := Cur.new _ (hs.below hb0 (Nat.le_refl _)) hn hX
  have hbN := Go.Joins.below_alloc1 W0 (.cells #[.slice a n cap, .int .i64 0, .int .u64 0] 82)
  have H0 : Hid (Cur (W0.alloc (.cells #[.slice a n cap, .int .i64 0, .int .u64 0] 82)) W0.heap.size a n cap X 0 ∧ T9 (W0.alloc (.cells #[.slice a n cap, .int .i64 0, .int .u64 0] 82)) w.heap.size [.int .i64 0, .int .i64 0, .int .i64 0, .int .i64 0, .string ⟨#[]⟩, .string ⟨#[]⟩, .int .i64 0, .int .i64 0, .bool false] ∧ Below w.heap.size w (W0.alloc (.cells #[.slice a n cap, .int .i64 0, .int .u64 0] 82))) := ⟨hC0, hT0.next hbN, hb0.trans (hbN.mono hb0.size)⟩
  clear hT0 hC0 hbN hb0 hs hX
  rw [hz0] at H0
  clear hz0
  subst hW0
  go_enter Try.func64, Try.ntmps64
  go_wp2_with fail
  refine (msg_any _ _ _ _ _ _ _ (by omega) H0.out.1).mono ?_
  rintro r w1 ⟨kd, fr, dt, tx, key, val, e, s, b, hsz, rfl, hd⟩
  have H1 : Hid (Below w.heap.size w w1) := below_trn H0.out.2.2 hd.2 (by omega)
  obtain ⟨⟨r0, r1, r2, r3, r4, r5, r6, r7, r8⟩, ⟨q0, q1, q2, q3, q4, q5, q6, q7, q8⟩, hrz⟩ := (H0.out.2.1.trn hd.2 (by omega)).all
  clear hd H0
  unfold msgA
  go_wp2
  exact bodyPost_ret (v := .agg #[.int .i64 kd, .int .i64 fr, .int .i64 dt, .int .i64 tx, .string key, .string val, .int .i64 e, .int .i64 s, .bool b]) (by simp [results, Try.results64, go_sem, *]) rfl ⟨kd, fr, dt, tx, key, val, e, s, b, hsz, rfl, (((((((((H1.out.setCell (p := ⟨w.heap.size, 0, none⟩) (Nat.le_refl _) _).setCell (p := ⟨w.heap.size, 1, none⟩) (Nat.le_refl _) _).setCell (p := ⟨w.heap.size, 2, none⟩) (Nat.le_refl _) _).setCell (p := ⟨w.heap.size, 3, none⟩) (Nat.le_refl _) _).setCell (p := ⟨w.heap.size, 4, none⟩) (Nat.le_refl _) _).setCell (p := ⟨w.heap.size, 5, none⟩) (Nat.le_refl _) _).setCell (p := ⟨w.heap.size, 6, none⟩) (Nat.le_refl _) _).setCell (p := ⟨w.heap.size, 7, none⟩) (Nat.le_refl _) _).setCell (p := ⟨w.heap.size, 8, none⟩) (Nat.le_refl _) _)⟩
set_option maxRecDepth 100000 in
set_option maxHeartbeats 1000000 in
theorem drawMsgBytes_any (a : Option Addr) (n cap : Nat) (X : Nat → Int) (w : World) (hn : n ≤ 9223372036854775807) (hs : Sl w a n 1 (byF X)) (hX : ∀ i, i < n → 0 ≤ X i ∧ X i ≤ 255) :
    Calls Try.prog 26 #[.slice a n cap] w fun r w' => M1Post w r w' := by
  have H0 : Hid (T9 (w.alloc (.cells #[.int .i64 0, .int .i64 0, .int .i64 0, .int .i64 0, .string ⟨#[]⟩, .string ⟨#[]⟩, .int .i64 0, .int .i64 0, .bool false] 43)) w.heap.size [.int .i64 0, .int .i64 0, .int .i64 0, .int .i64 0, .string ⟨#[]⟩, .string ⟨#[]⟩, .int .i64 0, .int .i64 0, .bool false] ∧ Sl (w.alloc (.cells #[.int .i64 0, .int .i64 0, .int .i64 0, .int .i64 0, .string ⟨#[]⟩, .string ⟨#[]⟩, .int .i64 0, .int .i64 0, .bool false] 43)) a n 1 (byF X) ∧ ∀ i, i < n → 0 ≤ X i ∧ X i ≤ 255) := ⟨Z9 w, hs.below (Go.Joins.below_alloc1 _ _) (Nat.le_refl _), hX⟩
  clear hs hX
  go_enter Try.func26, Try.ntmps26
  go_wp2_with fail
  refine (drawGoodMsg_any _ _ _ X _ hn H0.out.2.1 H0.out.2.2).mono ?_
  rintro r w1 ⟨kd, fr, dt, tx, key, val, e, s, b, hsz, rfl, hb⟩
  have H1 : Hid (Below w.heap.size w w1) := (Go.Joins.below_alloc1 w _).trans (hb.mono (by simp))
  obtain ⟨⟨r0, r1, r2, r3, r4, r5, r6, r7, r8⟩, ⟨q0, q1, q2, q3, q4, q5, q6, q7, q8⟩, hrz⟩ := (H0.out.1.next hb).all
  clear hb H0
  unfold msgA
  go_wp2
  exact bodyPost_ret (v := .agg #[.int .i64 kd, .int .i64 fr, .int .i64 dt, .int .i64 tx, .string key, .string val, .int .i64 e, .int .i64 s, .bool b]) (by simp [results, Try.results26, go_sem, *]) rfl ⟨kd, fr, dt, tx, key, val, e, s, b, hsz, rfl, (((((((((H1.out.setCell (p := ⟨w.heap.size, 0, none⟩) (Nat.le_refl _) _).setCell (p := ⟨w.heap.size, 1, none⟩) (Nat.le_refl _) _).setCell (p := ⟨w.heap.size, 2, none⟩) (Nat.le_refl _) _).setCell (p := ⟨w.heap.size, 3, none⟩) (Nat.le_refl _) _).setCell (p := ⟨w.heap.size, 4, none⟩) (Nat.le_refl _) _).setCell (p := ⟨w.heap.size, 5, none⟩) (Nat.le_refl _) _).setCell (p := ⟨w.heap.size, 6, none⟩) (Nat.le_refl _) _).setCell (p := ⟨w.heap.size, 7, none⟩) (Nat.le_refl _) _).setCell (p := ⟨w.heap.size, 8, none⟩) (Nat.le_refl _) _)⟩
end Go.Proofs.Ytbklhmeaoigneaa
