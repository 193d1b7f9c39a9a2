/- The contracts of MsgsBytes on both sides. -/
import Derived.Test.YtbklhmeaoigneaaMsgS
import Derived.Test.YtbklhmeaoigneaaMsgB
namespace Go.Proofs.Ytbklhmeaoigneaa
open Go.RowKit
set_option linter.unusedVariables false

def gM (m : MsgV) : Bool := goodM m.kd m.fr m.dt m.tx m.key m.val m.e m.s
def mbV (m : MsgV) : List UInt8 := mb m.kd m.fr m.dt m.tx m.key m.val m.e m.s m.b
def catM (M : Nat → MsgV) : Nat → List UInt8
  | 0 => []
  | k + 1 => catM M k ++ mbV (M k)
def goodsM (M : Nat → MsgV) : Nat → Bool
  | 0 => true
  | k + 1 => goodsM M k && gM (M k)
theorem goodsM_iff (M : Nat → MsgV) : ∀ n, goodsM M n = true ↔ ∀ i, i < n → gM (M i) = true
  | 0 => by simp [goodsM]
  | k + 1 => by
    simp only [goodsM, Bool.and_eq_true, goodsM_iff M k]
    exact ⟨fun h => upto_succ h.1 h.2, fun h => ⟨fun i hi => h i (by omega), h k (by omega)⟩⟩
def msgsOk (M : Nat → MsgV) (n : Nat) : Bool := decide (n ≤ 60) && goodsM M n
def msgsS (M : Nat → MsgV) (n : Nat) : ByteArray := if msgsOk M n then ⟨(catM M n).toArray⟩ else ⟨#[]⟩
theorem catM_length (M : Nat → MsgV) : ∀ k, (∀ i, i < k → gM (M i) = true) → (catM M k).length ≤ 43 * k ∧ 15 * k ≤ (catM M k).length
  | 0, _ => by simp [catM]
  | k + 1, h => by
    have ih := catM_length M k (fun i hi => h i (by omega))
    have hg := goodM_parts (h k (by omega))
    have hl : (mbV (M k)).length = 15 + (M k).key.size + (M k).val.size := mb_length _ _ _ _ _ _ _ _ _
    simp only [catM, List.length_append, hl]; omega
theorem ms_no {M : Nat → MsgV} {n : Nat} (h : msgsOk M n = false) : Ending.returned (.tuple #[.string ⟨#[]⟩, .bool false]) = .returned (.tuple #[.string (msgsS M n), .bool (msgsOk M n)]) := by
  simp [msgsS, h]
theorem ms_yes {M : Nat → MsgV} {n : Nat} (h : msgsOk M n = true) : Ending.returned (.tuple #[.string ⟨(catM M n).toArray⟩, .bool true]) = .returned (.tuple #[.string (msgsS M n), .bool (msgsOk M n)]) := by
  simp [msgsS, h]
theorem ms_bad {M : Nat → MsgV} {n k : Nat} (hk : k < n) (h : gM (M k) = false) : msgsOk M n = false := by
  cases hg : goodsM M n
  · simp [msgsOk, hg]
  · rw [(goodsM_iff M n).1 hg k hk] at h; cases h
theorem ms_ok {M : Nat → MsgV} {n : Nat} (hn : n ≤ 60) (h : ∀ i, i < n → gM (M i) = true) : msgsOk M n = true := by
  simp [msgsOk, hn, (goodsM_iff M n).2 h]

theorem conv_nil (W : World) : (convert 22 9 (.slice none 0 0)).run Try.prog W = .ok (.string ⟨#[]⟩) W := by
  rw [run_convert_bytes_string W 22 9 5 none 0 0 Try.underlying22 Try.underlying5 Try.underlying9]
  rfl
set_option maxHeartbeats 2000000 in
theorem msgsBytes_any (a : Option Addr) (n cap : Nat) (M : Nat → MsgV) (w : World) (hn : n ≤ 1048576) (hs : Sl w a n 9 (msgF M)) (hz : ∀ i, i < n → (M i).key.size ≤ maxLen ∧ (M i).val.size ≤ maxLen) :
    Calls Try.prog 31 #[.slice a n cap] w fun r w' => r = .returned (.tuple #[.string (msgsS M n), .bool (msgsOk M n)]) ∧ Below w.heap.size w w' := by
  have HZ : Hid (∀ i, i < n → (M i).key.size ≤ maxLen ∧ (M i).val.size ≤ maxLen) := hz
  clear hz
  by_cases h60 : n ≤ 60
  case neg =>
    have h60' : (60 : Int) < (n : Int) := by omega
    have HN : Hid (msgsOk M n = false) := by show msgsOk M n = false; simp [msgsOk, h60]
    clear hs h60
    go_enter Try.func31, Try.ntmps31
    go_wp2
    go_ret2
    exact ⟨ms_no HN.out, Below.refl _ _⟩
  case pos =>
  have h60' : ¬ (60 : Int) < (n : Int) := by omega
  go_enter Try.func31, Try.ntmps31
  go_wp2
  go_loopw [4, 12] (fun v i wr => ∃ k : Nat, k ≤ n ∧ i = .int .i64 k ∧ Own8 wr w.heap.size 5 v (catM M k) ∧ (k = 0 → v = .slice none 0 0) ∧ (∀ i, i < k → gM (M i) = true) ∧ Kep w.heap.size 5 w wr) (fun _ i _ => n - (intOf i).toNat)
  case atStart => exact ⟨0, Nat.zero_le _, rfl, Own8.nil _ _ _, fun _ => rfl, fun i hi => absurd hi (by omega), Kep.refl _ _ _⟩
  case round =>
    obtain ⟨k, hk, rfl, hO, hnil, hall, hK⟩ := hrel
    by_cases hlt : k < n
    · rcases hs.below hK.1 (Nat.le_refl _) with h | ⟨b, off, rfl, hbs, hE⟩
      · omega
      obtain ⟨c0, c1, c2, c3, c4, c5, c6, c7, c8⟩ := msg_cells hE hlt
      have hlt' : (k : Int) < (n : Int) := by omega
      have hsz : w.heap.size ≤ wr.heap.size := hK.1.size
      have HH : Hid (Own8 wr w.heap.size 5 u4 (catM M k) ∧ (∀ i, i < k → gM (M i) = true) ∧ Kep w.heap.size 5 w wr) := ⟨hO, hall, hK⟩
      clear hO hnil hall hK hs hE
      go_wp2_with fail
      refine (goodMsg_any _ _ _ _ _ _ _ _ _ _ (HZ.out k hlt).1 (HZ.out k hlt).2).mono ?_
      rintro r w2 ⟨rfl, hb2⟩
      clear c0 c1 c2 c3 c4 c5 c6 c7 c8
      have X2 : w2.heap[wr.heap.size]? = some (Obj.cells #[.int .i64 (M k).kd, .int .i64 (M k).fr, .int .i64 (M k).dt, .int .i64 (M k).tx, .string (M k).key, .string (M k).val, .int .i64 (M k).e, .int .i64 (M k).s, .bool (M k).b] 43 (0, 0)) := (hb2.block _ (by simp)).trans (heap_new _ _)
      have K2 : Hid (Kep w.heap.size 5 w w2) := (HH.out.2.2.alloc hsz _).below hb2 (by simp; omega)
      have O2 : Hid (Own8 w2 w.heap.size 5 u4 (catM M k)) := (HH.out.1.kep ((Below.refl _ _).alloc (Nat.le_refl _) _) (Nat.le_refl _)).kep hb2 (Nat.le_refl _)
      have hs2 : w.heap.size ≤ w2.heap.size := K2.out.1.size
      have HA : Hid (∀ i, i < k → gM (M i) = true) := HH.out.2.1
      clear hb2 HH
      cases hg : goodM (M k).kd (M k).fr (M k).dt (M k).tx (M k).key (M k).val (M k).e (M k).s
      · have HN : Hid (msgsOk M n = false) := ms_bad hlt hg
        clear X2
        go_wp2
        go_ret2
        exact ⟨ms_no HN.out, K2.out.1⟩
      · obtain ⟨hk8, hv20, hgt, ht0, ht1, _⟩ := goodM_parts hg
        have hcl := (catM_length M k HA.out).1
        have c0 := Go.Joins.cell_of_block X2 0
        have c1 := Go.Joins.cell_of_block X2 1
        have c2 := Go.Joins.cell_of_block X2 2
        have c3 := Go.Joins.cell_of_block X2 3
        have c4 := Go.Joins.cell_of_block X2 4
        have c5 := Go.Joins.cell_of_block X2 5
        have c6 := Go.Joins.cell_of_block X2 6
        have c7 := Go.Joins.cell_of_block X2 7
        have c8 := Go.Joins.cell_of_block X2 8
        simp at c0 c1 c2 c3 c4 c5 c6 c7 c8
        have HG : Hid (gM (M k) = true) := hg
        clear X2 hg
        go_wp2_with fail
        refine (appendMsg_any w.heap.size _ _ _ _ _ _ _ _ _ _ _ _ (by omega) (by omega) (by omega) hgt ht0 ht1 hs2 O2.out).mono ?_
        rintro r w3 ⟨v3, rfl, o3, k3⟩
        have R : Hid (Own8 w3 w.heap.size 5 v3 (catM M (k + 1)) ∧ Kep w.heap.size 5 w w3) := ⟨o3, K2.out.trans k3⟩
        clear o3 k3 c0 c1 c2 c3 c4 c5 c6 c7 c8 O2 K2
        go_wp2
        go_roundw
        case rel => exact ⟨k + 1, by omega, by go_num, R.out.1, fun h => absurd h (by omega), upto_succ HA.out HG.out, R.out.2⟩
        case measure => simp [intOf]; omega
    · have hkn : k = n := by omega
      subst hkn
      have HY : Hid (msgsOk M k = true) := ms_ok h60 hall
      have HB : Hid (Below w.heap.size w wr) := hK.1
      by_cases hk0 : k = 0
      · subst hk0
        obtain rfl := hnil rfl
        clear hs hO hall hK hnil
        have hcv := conv_nil
        go_wp2
        go_ret2
        exact ⟨by rw [← ms_yes HY.out]; rfl, HB.out⟩
      · have hcl := (catM_length M k hall).2
        obtain ⟨g, cp, rfl, hB⟩ := hO.bytes (by omega)
        have hcv := conv_bytes (cap := cp) rfl hB
        clear hs hO hall hK hnil hB hcl
        generalize hL : catM M k = L at *
        have HL : Hid (catM M k = L) := hL
        clear hL
        go_wp2
        go_ret2
        exact ⟨by rw [← ms_yes HY.out, HL.out]; rfl, HB.out⟩

set_option maxHeartbeats 2000000 in
theorem specMsgsBytes_any (a : Option Addr) (n cap : Nat) (M : Nat → MsgV) (w : World) (hn : n ≤ 1048576) (hs : Sl w a n 9 (msgF M)) (hz : ∀ i, i < n → (M i).key.size ≤ maxLen ∧ (M i).val.size ≤ maxLen) :
    Calls Try.prog 32 #[.slice a n cap] w fun r w' => r = .returned (.tuple #[.string (msgsS M n), .bool (msgsOk M n)]) ∧ Below w.heap.size w w' := by
  have HZ : Hid (∀ i, i < n → (M i).key.size ≤ maxLen ∧ (M i).val.size ≤ maxLen) := hz
  clear hz
  by_cases h60 : n ≤ 60
  case neg =>
    have h60' : (60 : Int) < (n : Int) := by omega
    have HN : Hid (msgsOk M n = false) := by show msgsOk M n = false; simp [msgsOk, h60]
    clear hs h60
    go_enter Try.func32, Try.ntmps32
    go_wp2
    go_ret2
    exact ⟨ms_no HN.out, Below.refl _ _⟩
  case pos =>
  have h60' : ¬ (60 : Int) < (n : Int) := by omega
  go_enter Try.func32, Try.ntmps32
  go_wp2
  go_loopw [4, 12] (fun v i wr => ∃ (k : Nat) (t : ByteArray), k ≤ n ∧ i = .int .i64 k ∧ v = .string t ∧ t = ⟨(catM M k).toArray⟩ ∧ (∀ i, i < k → gM (M i) = true) ∧ Below w.heap.size w wr) (fun _ i _ => n - (intOf i).toNat)
  case atStart => exact ⟨0, _, Nat.zero_le _, rfl, rfl, rfl, fun i hi => absurd hi (by omega), Below.refl _ _⟩
  case round =>
    obtain ⟨k, t, hk, rfl, rfl, ht, hall, hB⟩ := hrel
    have HT : Hid (t = ⟨(catM M k).toArray⟩) := ht
    have htl : t.size ≤ 43 * k := by rw [ht]; have := (catM_length M k hall).1; show (catM M k).toArray.size ≤ _; simpa using this
    clear ht
    by_cases hlt : k < n
    · rcases hs.below hB (Nat.le_refl _) with h | ⟨b, off, rfl, hbs, hE⟩
      · omega
      obtain ⟨c0, c1, c2, c3, c4, c5, c6, c7, c8⟩ := msg_cells hE hlt
      have hlt' : (k : Int) < (n : Int) := by omega
      have hsz : w.heap.size ≤ wr.heap.size := hB.size
      have HB : Hid (Below w.heap.size w wr) := hB
      have HA : Hid (∀ i, i < k → gM (M i) = true) := hall
      clear hall hB hs hE
      go_wp2_with fail
      refine (specGoodMsg_any _ _ _ _ _ _ _ _ _ _ (HZ.out k hlt).1 (HZ.out k hlt).2).mono ?_
      rintro r w2 ⟨rfl, hb2⟩
      clear c0 c1 c2 c3 c4 c5 c6 c7 c8
      have X2 : w2.heap[wr.heap.size]? = some (Obj.cells #[.int .i64 (M k).kd, .int .i64 (M k).fr, .int .i64 (M k).dt, .int .i64 (M k).tx, .string (M k).key, .string (M k).val, .int .i64 (M k).e, .int .i64 (M k).s, .bool (M k).b] 43 (0, 0)) := (hb2.block _ (by simp)).trans (heap_new _ _)
      have B2 : Hid (Below w.heap.size w w2) := (HB.out.alloc hsz _).trans (hb2.mono (by simp; omega))
      clear hb2 HB
      cases hg : goodM (M k).kd (M k).fr (M k).dt (M k).tx (M k).key (M k).val (M k).e (M k).s
      · have HN : Hid (msgsOk M n = false) := ms_bad hlt hg
        clear X2
        go_wp2
        go_ret2
        exact ⟨ms_no HN.out, B2.out⟩
      · obtain ⟨hk8, hv20, _⟩ := goodM_parts hg
        have hml : (mbV (M k)).length = 15 + (M k).key.size + (M k).val.size := mb_length _ _ _ _ _ _ _ _ _
        have c0 := Go.Joins.cell_of_block X2 0
        have c1 := Go.Joins.cell_of_block X2 1
        have c2 := Go.Joins.cell_of_block X2 2
        have c3 := Go.Joins.cell_of_block X2 3
        have c4 := Go.Joins.cell_of_block X2 4
        have c5 := Go.Joins.cell_of_block X2 5
        have c6 := Go.Joins.cell_of_block X2 6
        have c7 := Go.Joins.cell_of_block X2 7
        have c8 := Go.Joins.cell_of_block X2 8
        simp at c0 c1 c2 c3 c4 c5 c6 c7 c8
        have HG : Hid (gM (M k) = true) := hg
        clear X2
        go_wp2_with fail
        refine (l1Bytes_any _ _ _ _ _ _ _ _ _ _ hg).mono ?_
        rintro r w3 ⟨rfl, hb3⟩
        have B3 : Hid (Below w.heap.size w w3) := B2.out.trans (hb3.mono B2.out.size)
        have hul : (⟨(mbV (M k)).toArray⟩ : ByteArray).size ≤ 43 := by show (mbV (M k)).toArray.size ≤ 43; simp only [List.size_toArray]; omega
        rw [show mb (M k).kd (M k).fr (M k).dt (M k).tx (M k).key (M k).val (M k).e (M k).s (M k).b = mbV (M k) from rfl]
        generalize hU : (⟨(mbV (M k)).toArray⟩ : ByteArray) = U at *
        have HU : Hid (t ++ U = ⟨(catM M (k + 1)).toArray⟩) := by
          show t ++ U = ⟨(catM M (k + 1)).toArray⟩
          rw [HT.out, ← hU]
          apply ByteArray.ext
          apply Array.ext'
          simp only [Go.Joins.data_append]
          simp [catM]
        clear hb3 hU hml hg c0 c1 c2 c3 c4 c5 c6 c7 c8 B2
        go_wp2
        go_roundw
        case rel => exact ⟨k + 1, _, by omega, by go_num, rfl, HU.out, upto_succ HA.out HG.out, B3.out⟩
        case measure => simp [intOf]; omega
    · have hkn : k = n := by omega
      subst hkn
      have HY : Hid (msgsOk M k = true) := ms_ok h60 hall
      have HB : Hid (Below w.heap.size w wr) := hB
      clear hs hall hB
      go_wp2
      go_ret2
      exact ⟨by rw [← ms_yes HY.out, ← HT.out]; rfl, HB.out⟩
end Go.Proofs.Ytbklhmeaoigneaa
