/- Messages come back from their bytes, one alone and many in a row, for drawn messages: the law FnMsgs. -/
import Derived.Test.YtbklhmeaoigneaaDrM4
import Derived.Test.YtbklhmeaoigneaaRt2
import Derived.Test.YtbklhmeaoigneaaRdW
import Derived.Test.YtbklhmeaoigneaaOpenB
import Derived.Test.YtbklhmeaoigneaaWords
import Derived.ProofKit
import Derived.OpenShut
import Derived.ShutString
import Derived.ChangeOld
import Derived.Below
import Derived.Lib.SmallJoins
namespace Go.Proofs.Ytbklhmeaoigneaa.fMsgs
open Go.ChangeShapes Go.WideShapes Go.ChangeAt Go.RowKit
open Go.ChangeMaps (open_string shut_string)
set_option linter.unusedVariables false

theorem msgs_small {M : Nat → MsgV} {n : Nat} (h : msgsOk M n = true) : (msgsS M n).size ≤ 1048576 := by
  have h60 : n ≤ 60 ∧ goodsM M n = true := by simpa [msgsOk] using h
  have := (catM_length M n ((goodsM_iff M n).1 h60.2)).1
  rw [← ba_len, msgsS, if_pos h]
  show (catM M n).length ≤ _
  omega
theorem readBack {u T : ByteArray} {kd fr dt tx : Int} {key val : ByteArray} {e s : Int} {b : Bool} {rest : List UInt8} (hu : u = ⟨(mb kd fr dt tx key val e s b).toArray⟩) (hT : T.data.toList = mb kd fr dt tx key val e s b ++ rest) (hg : goodM kd fr dt tx key val e s = true) (hs : T.size ≤ 1048576) (w : World) :
    Calls Try.prog 29 #[.string T] w fun r w' => r = .returned (.tuple #[.agg #[.int .i64 kd, .int .i64 fr, .int .i64 dt, .int .i64 tx, .string key, .string val, .int .i64 e, .int .i64 s, .bool b], .int .i64 (u.size : Int)]) ∧ Below w.heap.size w w' := by
  obtain ⟨h1, h2, h3⟩ := back hT hg
  refine (readMsg_any T w hs).mono fun r w' hr => ⟨?_, hr.2⟩
  have hl : u.size = 15 + key.size + val.size := by rw [hu, ← ba_len]; exact mb_length _ _ _ _ _ _ _ _ _
  rw [hr.1, rAgg_mv, h3, mI, h1, if_pos rfl, h2, hl]

set_option maxRecDepth 100000 in
set_option maxHeartbeats 4000000 in
theorem walk (a : Option Addr) (n cap : Nat) (X : Nat → Int) (w : World) (hm : n ≤ maxLen) (hs : Sl w a n 1 (byF X)) (hX : ∀ i, i < n → 0 ≤ X i ∧ X i ≤ 255)
    (a' : Option Addr) (n' cap' : Nat) (Y : Nat → Int) (hm' : n' ≤ maxLen) (hs' : Sl w a' n' 1 (byF Y)) (hY : ∀ i, i < n' → 0 ≤ Y i ∧ Y i ≤ 255) :
    Calls Try.prog 5 #[.slice a n cap, .slice a' n' cap'] w fun r w' => r = .returned (.bool true) ∧ Below w.heap.size w w' := by
  unfold maxLen at hm hm'
  have HS : Hid ((Sl w a n 1 (byF X) ∧ ∀ i, i < n → 0 ≤ X i ∧ X i ≤ 255) ∧ Sl w a' n' 1 (byF Y) ∧ ∀ i, i < n' → 0 ≤ Y i ∧ Y i ≤ 255) := ⟨⟨hs, hX⟩, hs', hY⟩
  clear hs hs' hX hY
  by_cases hlt : (1048576 : Int) < wrap64 ((n : Int) + (n' : Int))
  case pos =>
    go_enter Try.func5, Try.ntmps5
    go_wp2
    go_ret
    exact ⟨rfl, Below.refl _ _⟩
  case neg =>
  go_enter Try.func5, Try.ntmps5
  go_wp2_with fail
  refine (drawMsgBytes_any _ _ _ X _ hm HS.out.1.1 HS.out.1.2).mono ?_
  rintro r w1 ⟨kd, fr, dt, tx, key, val, e, s, b, hsz, rfl, hb⟩
  unfold msgA
  have H1 : Hid (Below w.heap.size w w1) := hb
  have hz1 : w.heap.size ≤ w1.heap.size := hb.size
  clear hb
  cases hg : goodM kd fr dt tx key val e s
  · have HG : Hid (goodM kd fr dt tx key val e s = false) := hg
    clear hg
    go_wp2_with fail
    refine (msgBytes_no kd fr dt tx key val e s b _ (by unfold maxLen; omega) (by unfold maxLen; omega) HG.out).mono ?_
    rintro r w2 ⟨rfl, hb⟩
    have H2 : Hid (T9 w2 w1.heap.size [.int .i64 kd, .int .i64 fr, .int .i64 dt, .int .i64 tx, .string key, .string val, .int .i64 e, .int .i64 s, .bool b] ∧ Below w.heap.size w w2) := ⟨(T9.new w1 [.int .i64 kd, .int .i64 fr, .int .i64 dt, .int .i64 tx, .string key, .string val, .int .i64 e, .int .i64 s, .bool b] 43).next hb, (H1.out.alloc hz1 _).trans (hb.mono (by simp; omega))⟩
    obtain ⟨⟨c0, c1, c2, c3, c4, c5, c6, c7, c8⟩, _, cz⟩ := H2.out.1.all
    clear hb H1
    go_wp2_with fail
    refine (specMsgBytes_no kd fr dt tx key val e s b _ (by unfold maxLen; omega) (by unfold maxLen; omega) HG.out).mono ?_
    rintro r w3 ⟨rfl, hb⟩
    have H5 : Hid (Below w.heap.size w w3) := H2.out.2.trans (hb.mono H2.out.2.size)
    clear hb H2 c0 c1 c2 c3 c4 c5 c6 c7 c8 cz
    go_wp2_with fail
    refine (drawMsgs_any _ _ _ Y _ hm' (HS.out.2.1.below H5.out (Nat.le_refl _)) HS.out.2.2).mono ?_
    rintro r w6 ⟨a4, k, cap4, M, hk, rfl, hsl, hz, hb⟩
    have HM : Hid (∀ i, i < k → (M i).key.size ≤ maxLen ∧ (M i).val.size ≤ maxLen) := fun i hi => by have := hz i hi; unfold maxLen; omega
    have H6 : Hid (Sl w6 a4 k 9 (msgF M) ∧ Below w.heap.size w w6) := ⟨hsl, H5.out.trans (hb.mono H5.out.size)⟩
    clear hb hsl hz H5
    go_wp2_with fail
    refine (msgsBytes_any _ _ _ M _ (by omega) H6.out.1 HM.out).mono ?_
    rintro r w7 ⟨rfl, hb⟩
    have H7 : Hid (Sl w7 a4 k 9 (msgF M) ∧ Below w.heap.size w w7) := ⟨H6.out.1.below hb (Nat.le_refl _), H6.out.2.trans (hb.mono H6.out.2.size)⟩
    clear hb H6
    go_wp2_with fail
    refine (specMsgsBytes_any _ _ _ M _ (by omega) H7.out.1 HM.out).mono ?_
    rintro r w8 ⟨rfl, hb⟩
    have H8 : Hid (Sl w8 a4 k 9 (msgF M) ∧ Below w.heap.size w w8) := ⟨H7.out.1.below hb (Nat.le_refl _), H7.out.2.trans (hb.mono H7.out.2.size)⟩
    clear hb H7
    cases hok : msgsOk M k
    · have hem : msgsS M k = ⟨#[]⟩ := by simp [msgsS, hok]
      rw [hem]
      clear hem
      have HB8 : Hid (Below w.heap.size w w8) := H8.out.2
      go_wp2
      go_ret
      exact ⟨rfl, HB8.out⟩
    · have HA : Hid (rmOk (msgsS M k) = true ∧ rmN (msgsS M k) = k ∧ ∀ i, i < k → rmM (msgsS M k) i = M i) := back_all hok
      have hsz : (msgsS M k).size ≤ 1048576 := msgs_small hok
      obtain ⟨T, hT⟩ : ∃ T, T = msgsS M k := ⟨_, rfl⟩
      rw [← hT] at HA hsz
      rw [← hT]
      clear hT hok
      go_wp2_with fail
      refine (readMsgs_any T _ hsz).mono ?_
      rintro r w9 ⟨⟨a9, cap9, rfl, hr⟩, hb⟩
      rw [HA.out.1, HA.out.2.1]
      rw [HA.out.2.1] at hr
      have H9 : Hid (SRow w9 w8.heap.size w9.heap.size a9 k 9 (msgF (rmM T)) ∧ Sl w9 a4 k 9 (msgF M) ∧ Below w.heap.size w w9) := ⟨hr, H8.out.1.below hb (Nat.le_refl _), H8.out.2.trans (hb.mono H8.out.2.size)⟩
      clear hr hb H8
      go_wp2
      go_loopw [97] (fun i wr => ∃ j : Nat, j ≤ k ∧ i = .int .i64 j ∧ Below w9.heap.size w9 wr) (fun i _ => k - (intOf i).toNat)
      case atStart => exact ⟨0, Nat.zero_le _, rfl, Below.refl _ _⟩
      case round =>
        obtain ⟨j, hj, rfl, hBr⟩ := hrel
        by_cases hjk : j < k
        · have hjk' : (j : Int) < (k : Int) := by omega
          rcases (H9.out.1.sl.below hBr (Nat.le_refl _)) with h | ⟨b9, o9, rfl, hb9, hE9⟩
          · omega
          rcases (H9.out.2.1.below hBr (Nat.le_refl _)) with h | ⟨b4, o4, rfl, hb4, hE4⟩
          · omega
          obtain ⟨c0, c1, c2, c3, c4, c5, c6, c7, c8⟩ := msg_cells hE9 hjk
          obtain ⟨d0, d1, d2, d3, d4, d5, d6, d7, d8⟩ := msg_cells hE4 hjk
          rw [HA.out.2.2 j hjk] at c0 c1 c2 c3 c4 c5 c6 c7 c8
          have HB : Hid (Below w9.heap.size w9 wr) := hBr
          clear hE9 hE4 hBr
          go_upto_region 25 with fail
          go_quiet (fail)
          go_wp2
          go_roundw
          case rel => exact ⟨j + 1, by omega, by go_num, below_drewN HB.out _⟩
          case measure => simp [intOf]; omega
        · have hkn : j = k := by omega
          subst hkn
          have HB : Hid (Below w.heap.size w wr) := H9.out.2.2.trans (hBr.mono H9.out.2.2.size)
          clear hBr
          go_wp2
          go_ret
          exact ⟨rfl, HB.out⟩
  · have HG : Hid (goodM kd fr dt tx key val e s = true) := hg
    clear hg
    obtain ⟨u, hu⟩ : ∃ u : ByteArray, u = ⟨(mb kd fr dt tx key val e s b).toArray⟩ := ⟨_, rfl⟩
    have HU : Hid (u = ⟨(mb kd fr dt tx key val e s b).toArray⟩) := hu
    have hus : u.size ≤ 100 := by
      have : u.size = 15 + key.size + val.size := by rw [hu, ← ba_len]; exact mb_length _ _ _ _ _ _ _ _ _
      omega
    clear hu
    go_wp2_with fail
    refine (msgBytes_yes kd fr dt tx key val e s b _ (by unfold maxLen; omega) (by unfold maxLen; omega) HG.out).mono ?_
    rintro r w2 ⟨rfl, hb⟩
    rw [← HU.out]
    have H2 : Hid (T9 w2 w1.heap.size [.int .i64 kd, .int .i64 fr, .int .i64 dt, .int .i64 tx, .string key, .string val, .int .i64 e, .int .i64 s, .bool b] ∧ Below w.heap.size w w2) := ⟨(T9.new w1 [.int .i64 kd, .int .i64 fr, .int .i64 dt, .int .i64 tx, .string key, .string val, .int .i64 e, .int .i64 s, .bool b] 43).next hb, (H1.out.alloc hz1 _).trans (hb.mono (by simp; omega))⟩
    obtain ⟨⟨c0, c1, c2, c3, c4, c5, c6, c7, c8⟩, _, cz⟩ := H2.out.1.all
    clear hb H1
    go_wp2_with fail
    refine (specMsgBytes_yes kd fr dt tx key val e s b _ (by unfold maxLen; omega) (by unfold maxLen; omega) HG.out).mono ?_
    rintro r w3 ⟨rfl, hb⟩
    rw [← HU.out]
    have H3 : Hid (T9 w3 w1.heap.size [.int .i64 kd, .int .i64 fr, .int .i64 dt, .int .i64 tx, .string key, .string val, .int .i64 e, .int .i64 s, .bool b] ∧ Below w.heap.size w w3) := ⟨H2.out.1.next hb, H2.out.2.trans (hb.mono H2.out.2.size)⟩
    clear hb H2 c0 c1 c2 c3 c4 c5 c6 c7 c8 cz
    go_wp2_with fail
    refine (readBack (rest := [109, 111, 114, 101]) HU.out (by rw [HU.out]; simp) HG.out (by rw [ByteArray.size_append]; have h4 : (⟨#[109, 111, 114, 101]⟩ : ByteArray).size = 4 := rfl; omega) _).mono ?_
    rintro r w4 ⟨rfl, hb⟩
    have H4 : Hid (T9 w4 w1.heap.size [.int .i64 kd, .int .i64 fr, .int .i64 dt, .int .i64 tx, .string key, .string val, .int .i64 e, .int .i64 s, .bool b] ∧ Below w.heap.size w w4) := ⟨H3.out.1.next hb, H3.out.2.trans (hb.mono H3.out.2.size)⟩
    obtain ⟨⟨c0, c1, c2, c3, c4, c5, c6, c7, c8⟩, _, cz⟩ := H4.out.1.all
    have H5 : Hid (Below w.heap.size w (w4.alloc (.cells #[.int .i64 kd, .int .i64 fr, .int .i64 dt, .int .i64 tx, .string key, .string val, .int .i64 e, .int .i64 s, .bool b] 43))) := H4.out.2.alloc H4.out.2.size _
    clear hb H3
    go_wp2_with fail
    refine (drawMsgs_any _ _ _ Y _ hm' (HS.out.2.1.below H5.out (Nat.le_refl _)) HS.out.2.2).mono ?_
    rintro r w6 ⟨a4, k, cap4, M, hk, rfl, hsl, hz, hb⟩
    have HM : Hid (∀ i, i < k → (M i).key.size ≤ maxLen ∧ (M i).val.size ≤ maxLen) := fun i hi => by have := hz i hi; unfold maxLen; omega
    have H6 : Hid (Sl w6 a4 k 9 (msgF M) ∧ Below w.heap.size w w6) := ⟨hsl, H5.out.trans (hb.mono H5.out.size)⟩
    clear hb hsl hz H5
    go_wp2_with fail
    refine (msgsBytes_any _ _ _ M _ (by omega) H6.out.1 HM.out).mono ?_
    rintro r w7 ⟨rfl, hb⟩
    have H7 : Hid (Sl w7 a4 k 9 (msgF M) ∧ Below w.heap.size w w7) := ⟨H6.out.1.below hb (Nat.le_refl _), H6.out.2.trans (hb.mono H6.out.2.size)⟩
    clear hb H6
    go_wp2_with fail
    refine (specMsgsBytes_any _ _ _ M _ (by omega) H7.out.1 HM.out).mono ?_
    rintro r w8 ⟨rfl, hb⟩
    have H8 : Hid (Sl w8 a4 k 9 (msgF M) ∧ Below w.heap.size w w8) := ⟨H7.out.1.below hb (Nat.le_refl _), H7.out.2.trans (hb.mono H7.out.2.size)⟩
    clear hb H7
    cases hok : msgsOk M k
    · have hem : msgsS M k = ⟨#[]⟩ := by simp [msgsS, hok]
      rw [hem]
      clear hem
      have HB8 : Hid (Below w.heap.size w w8) := H8.out.2
      go_wp2
      go_ret
      exact ⟨rfl, HB8.out⟩
    · have HA : Hid (rmOk (msgsS M k) = true ∧ rmN (msgsS M k) = k ∧ ∀ i, i < k → rmM (msgsS M k) i = M i) := back_all hok
      have hsz : (msgsS M k).size ≤ 1048576 := msgs_small hok
      obtain ⟨T, hT⟩ : ∃ T, T = msgsS M k := ⟨_, rfl⟩
      rw [← hT] at HA hsz
      rw [← hT]
      clear hT hok
      go_wp2_with fail
      refine (readMsgs_any T _ hsz).mono ?_
      rintro r w9 ⟨⟨a9, cap9, rfl, hr⟩, hb⟩
      rw [HA.out.1, HA.out.2.1]
      rw [HA.out.2.1] at hr
      have H9 : Hid (SRow w9 w8.heap.size w9.heap.size a9 k 9 (msgF (rmM T)) ∧ Sl w9 a4 k 9 (msgF M) ∧ Below w.heap.size w w9) := ⟨hr, H8.out.1.below hb (Nat.le_refl _), H8.out.2.trans (hb.mono H8.out.2.size)⟩
      clear hr hb H8
      go_wp2
      go_loopw [97] (fun i wr => ∃ j : Nat, j ≤ k ∧ i = .int .i64 j ∧ Below w9.heap.size w9 wr) (fun i _ => k - (intOf i).toNat)
      case atStart => exact ⟨0, Nat.zero_le _, rfl, Below.refl _ _⟩
      case round =>
        obtain ⟨j, hj, rfl, hBr⟩ := hrel
        by_cases hjk : j < k
        · have hjk' : (j : Int) < (k : Int) := by omega
          rcases (H9.out.1.sl.below hBr (Nat.le_refl _)) with h | ⟨b9, o9, rfl, hb9, hE9⟩
          · omega
          rcases (H9.out.2.1.below hBr (Nat.le_refl _)) with h | ⟨b4, o4, rfl, hb4, hE4⟩
          · omega
          obtain ⟨c0, c1, c2, c3, c4, c5, c6, c7, c8⟩ := msg_cells hE9 hjk
          obtain ⟨d0, d1, d2, d3, d4, d5, d6, d7, d8⟩ := msg_cells hE4 hjk
          rw [HA.out.2.2 j hjk] at c0 c1 c2 c3 c4 c5 c6 c7 c8
          have HB : Hid (Below w9.heap.size w9 wr) := hBr
          clear hE9 hE4 hBr
          go_upto_region 25 with fail
          go_quiet (fail)
          go_wp2
          go_roundw
          case rel => exact ⟨j + 1, by omega, by go_num, below_drewN HB.out _⟩
          case measure => simp [intOf]; omega
        · have hkn : j = k := by omega
          subst hkn
          have HB : Hid (Below w.heap.size w wr) := H9.out.2.2.trans (hBr.mono H9.out.2.2.size)
          clear hBr
          go_wp2
          go_ret
          exact ⟨rfl, HB.out⟩


theorem own : ownKnob Try.prog.godebug = none := by kernel_rfl
theorem laidOut : laidOutB Try.prog = true := by kernel_rfl

set_option maxRecDepth 100000 in
theorem lifted (os : Os) (started : os.Started) (H : Type) (enc : TypeId × Value → H) :
    ReturnsInHanded {} Try.checked os 5 .any (Rows.fnMsgsSpec.pre6 enc Try.prog Try.f5 Rows.fnMsgsRow.domain false) (Rows.fnMsgsSpec.post enc Try.prog Try.f5 false true false false) := by
  refine returnsInHanded_of_change (C := Try.checked) own started (by kernel_rfl) Try.func5
    (ChangeSpec.witness6 (enc := enc) (C := Try.checked) false ⟨#[], #[.slice none 0 0, .slice none 0 0], []⟩ 8 (by kernel_rfl) (by kernel_rfl) (by kernel_rfl) (by kernel_rfl)) ?_
  intro W base args ds gs before hval0 hW hcnd _
  have hval : ∀ (j : Nat) t v, Try.f5.params[j]? = some t → args[j]? = some v → Value.okWide Try.prog W .any base t v := hval0
  have hW' := hW
  obtain ⟨p, q, hA0, hV, rfl, hfz, hnd⟩ := hW
  have hA : DataW.TrodAll enc Try.prog W 0 (fun _ => true) true Try.f5.params.toList args.toList ds p := hA0
  rw [Try.params5] at hA hval
  obtain ⟨v0, vs0, d0, ds0, p0, q0, hargs, rfl, rfl, h0, r0⟩ := trodAll_cons hA
  obtain ⟨v1, vs1, d1, ds1, p1, q1, rfl, rfl, rfl, h1, r1⟩ := trodAll_cons r0
  obtain ⟨rfl, rfl, rfl⟩ := trodAll_nil r1
  obtain rfl : args = #[v0, v1] := by cases args; simp_all
  obtain ⟨rfl, rfl⟩ := trodVars_none hV
  have k0 := h0
  have lt0 : ∀ x ∈ p0, x.block < W.heap.size := by obtain ⟨m, hm⟩ := k0; exact DataW.trod_lt m _ _ _ hm
  obtain ⟨a0, len0, cap0, rfl⟩ := okWide_slice Try.underlying22 (hval 0 22 v0 rfl rfl)
  obtain ⟨n0, X0, s0, b0⟩ := open_bytes h0
  have k1 := h1
  have lt1 : ∀ x ∈ p1, x.block < W.heap.size := by obtain ⟨m, hm⟩ := k1; exact DataW.trod_lt m _ _ _ hm
  obtain ⟨a1, len1, cap1, rfl⟩ := okWide_slice Try.underlying22 (hval 1 22 v1 rfl rfl)
  obtain ⟨n1, X1, s1, b1⟩ := open_bytes h1
  clear hA0 hval0
  refine (walk (w := W) a0 len0 cap0 X0 n0 s0 b0 a1 len1 cap1 X1 n1 s1 b1).mono fun e W' ⟨he, bel⟩ => ?_
  subst he
  exact ⟨_, rfl, _, _, _, [], _, [], hW', trodAll_mk1 (shut_bool Try.underlying4 _), (trodAll_cons_mk (Below.trod laidOut (by kernel_rfl) (of_decide_eq_true (by kernel_rfl)) k0 bel lt0) (trodAll_cons_mk (Below.trod laidOut (by kernel_rfl) (of_decide_eq_true (by kernel_rfl)) k1 bel lt1) trodAll_mk0)), rfl, bel.frame _, fun h => by cases h⟩

set_option maxHeartbeats 40000000 in
theorem closed : joinedFacts Try.pinned.checked.prog 5 Try.f5 Rows.fnMsgsSpec Rows.fnMsgsRow = true := by
  unfold joinedFacts
  repeat' (first | (with_reducible refine both ?_ ?_) | (with_reducible exact may_enter') | (with_reducible refine lifts_eq ?_) | (with_reducible refine make_eq ?_) | as_aux_lemma => kernel_rfl)
theorem named : Try.pinned.checked.prog.funcNamed Rows.fnMsgsRow.func = some 5 := by kernel_rfl
theorem over : Rows.fnMsgsRow.holds Try.pinned (OpenSpec.ofChange Rows.fnMsgsSpec) :=
  OpenClaim.holds_of_wide 5 Try.f5 rfl rfl rfl rfl rfl rfl rfl ⟨rfl, rfl, rfl, rfl, rfl⟩ rfl rfl rfl rfl rfl named Try.func5 closed
    (of_decide_eq_true (by as_aux_lemma => kernel_rfl)) (by unfold Func.isWrapper; first | (rw [if_pos (by decide +kernel)]; kernel_rfl) | (rw [if_neg (by decide +kernel)]; exact ⟨rfl, rfl⟩))
    (fun os started H enc _ => lifted os started H enc)

end Go.Proofs.Ytbklhmeaoigneaa.fMsgs
namespace Go.Proofs.Ytbklhmeaoigneaa
theorem fMsgs_holds : Rows.FnMsgsSaid := fMsgs.over
#print axioms fMsgs_holds
end Go.Proofs.Ytbklhmeaoigneaa
