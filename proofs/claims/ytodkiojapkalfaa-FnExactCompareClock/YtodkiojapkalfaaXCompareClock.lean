/- At every two clocks impl.CompareClock answers as the specification does, writes into no argument, and each argument reads behind the call as it read before. No condition. -/
import Derived.Test.YtodkiojapkalfaaClkS
import Derived.Test.YtodkiojapkalfaaClkL
import Derived.Test.YtodkiojapkalfaaOpenC
import Derived.ProofKit
import Derived.OpenShut
import Derived.ShutString
import Derived.ChangeOld
import Derived.Below
import Derived.Lib.SmallJoins
namespace Go.Proofs.Ytodkiojapkalfaa.xCompareClock
open Go.ChangeShapes Go.WideShapes Go.ChangeAt Go.RowKit
open Go.ChangeMaps (open_string shut_string)
set_option linter.unusedVariables false

set_option maxHeartbeats 4000000 in
theorem walk (a : Option Addr) (n cap : Nat) (X : Nat → Int) (w : World) (hm : n ≤ maxLen) (hs : Sl w a n 1 (intF X)) (a' : Option Addr) (n' cap' : Nat) (Y : Nat → Int) (hm' : n' ≤ maxLen) (hs' : Sl w a' n' 1 (intF Y)) :
    Calls Try.prog 11 #[.agg #[.slice a n cap], .agg #[.slice a' n' cap']] w fun r w' => r = .returned (.bool true) ∧ Below w.heap.size w w' := by
  have HS : Hid (Sl w a n 1 (intF X) ∧ Sl w a' n' 1 (intF Y)) := ⟨hs, hs'⟩
  clear hs hs'
  go_enter Try.func11, Try.ntmps11
  go_wp2_with fail
  refine (szClock_any _ _ _ _ _ hm (by omega) (by omega)).mono ?_
  rintro r w1 ⟨rfl, hb⟩
  have HB1 : Hid (Below w.heap.size w w1) := (((Below.refl _ _).alloc (Nat.le_refl _) _).alloc (by simp) _).trans (hb.mono (by simp; omega))
  have A_1 : Hid (BoxS w1 w.heap.size (.slice a n cap)) := ((BoxS.new w (.slice a n cap) 69).next (Go.Joins.below_alloc1 _ (.cells #[.slice a' n' cap'] 69))).next hb
  have D_1 : Hid (BoxS w1 (w.heap.size + 1) (.slice a' n' cap')) := by
    have := (BoxS.new (w.alloc (.cells #[.slice a n cap] 69)) (.slice a' n' cap') 69).next hb
    show BoxS w1 (w.heap.size + 1) (.slice a' n' cap')
    simpa using this
  clear hb
  by_cases hn : n ≤ 1048576
  case neg =>
    have hlt : (1048576 : Int) < (n : Int) := by omega
    rw [if_pos hlt]
    go_wp2
    go_ret
    exact ⟨rfl, HB1.out⟩
  case pos =>
  have hlt : ¬ (1048576 : Int) - (n : Int) < 0 := by omega
  rw [if_neg (by omega)]
  have cD := D_1.out.1
  go_wp2_with fail
  refine (szClock_any _ _ _ _ _ hm' (by omega) (by omega)).mono ?_
  rintro r w2 ⟨rfl, hb⟩
  have HB2 : Hid (Below w.heap.size w w2) := below_next HB1.out hb
  have A_2 : Hid (BoxS w2 w.heap.size (.slice a n cap)) := A_1.out.next hb
  have D_2 : Hid (BoxS w2 (w.heap.size + 1) (.slice a' n' cap')) := D_1.out.next hb
  clear hb HB1 A_1 D_1 cD
  by_cases hn' : (1048576 : Int) - (n : Int) < (n' : Int)
  · rw [if_pos hn']
    go_wp2
    go_ret
    exact ⟨rfl, HB2.out⟩
  have hlt' : ¬ (1048576 : Int) - (n : Int) - (n' : Int) < 0 := by omega
  rw [if_neg hn']
  have hq' : n' ≤ 1048576 := by omega
  have cA := A_2.out.1
  have cD := D_2.out.1
  have zD : w.heap.size + 1 < w2.heap.size := D_2.out.2
  have zA : w.heap.size < w2.heap.size := A_2.out.2
  have sz2 : w.heap.size ≤ w2.heap.size := HB2.out.size
  have hb2 : Below w.heap.size w w2 := HB2.out
  have tok : True := trivial
  go_upto_region 8 with fail
  go_cut [6, 7] (fun s0 s1 wx => s0 = .int .i64 (ccN X n Y n') ∧ s1 = .bool (ccOk X n Y n') ∧ Below w2.heap.size w2 wx)
  case first =>
    go_region_with (first
        | (go_at_call 53; have tok1 := tok; clear tok; refine (toClock_any a n cap X _ hn (HS.out.1.kept (by first | exact hb2 | exact hb2.drew | exact hb2.drew.drew))).mono ?_; rintro r w3 ⟨⟨g3, rfl, hi3⟩, hb3⟩; have HI3 : Hid (RowS w3 w2.heap.size w3.heap.size (some ⟨g3, 0, none⟩) n X) := RowS.of hi3; have HB3 : Below w2.heap.size w2 w3 := (by first | exact hb3 | exact (below_drew w2).trans hb3); have c3 : w3.cell? ⟨w.heap.size + 1, 0, none⟩ = some (.slice a' n' cap') := (HB3.cell (p := ⟨w.heap.size + 1, 0, none⟩) zD).trans cD; have z3 : w2.heap.size ≤ w3.heap.size := HB3.size; clear hi3 hb3)
        | (go_at_call 53; refine (toClock_any a' n' cap' Y _ hq' (HS.out.2.kept (by first | exact below_next hb2 HB3 | exact (below_next hb2 HB3).drew | exact (below_next hb2 HB3).drew.drew))).mono ?_; rintro r w4 ⟨⟨g4, rfl, hi4⟩, hb4⟩; have HI4 : Hid (RowS w4 w3.heap.size w4.heap.size (some ⟨g4, 0, none⟩) n' Y) := RowS.of hi4; have HB4 : Below w3.heap.size w3 w4 := (by first | exact hb4 | exact (below_drew w3).trans hb4); have HI5 : Hid (RowS w4 w2.heap.size w3.heap.size (some ⟨g3, 0, none⟩) n X) := HI3.out.next HB4; have z4 : w3.heap.size ≤ w4.heap.size := HB4.size; clear hi4 hb4)
        | (go_at_call 52; refine (specCompareClock_any _ _ _ X _ _ _ Y _ hn hq' HI5.out.sl HI4.out.sl).mono ?_; rintro r w5 ⟨rfl, hb5⟩; have HB5 : Below w4.heap.size w4 w5 := (by first | exact hb5 | exact (below_drew w4).trans hb5); clear hb5))
    all_goals (go_wp2_with fail; go_meet; exact ⟨rfl, rfl, (HB3.trans (HB4.mono z3)).trans (HB5.mono (Nat.le_trans z3 z4))⟩)
  case rest =>
    obtain ⟨rfl, rfl, hb⟩ := hcut
    obtain ⟨y3, hy⟩ : ∃ x, x = wc := ⟨wc, rfl⟩
    subst hy
    have HB3 : Hid (Below w.heap.size w y3) := below_next HB2.out hb
    have sz3 : w2.heap.size ≤ y3.heap.size := hb.size
    have A_3 : Hid (BoxS y3 w.heap.size (.slice a n cap)) := A_2.out.next hb
    have D_3 : Hid (BoxS y3 (w.heap.size + 1) (.slice a' n' cap')) := D_2.out.next hb
    clear hb A_2 D_2 HB2
    clear tok cA cD zA zD hb2
    have cA := A_3.out.1
    have zA := A_3.out.2
    go_wp2_with fail
    refine (toClock_any _ _ _ X _ hn (HS.out.1.kept HB3.out)).mono ?_
    rintro r w4 ⟨⟨g4, rfl, hi⟩, hb⟩
    have HB4 : Hid (Below w.heap.size w w4) := below_next HB3.out hb
    have sz4 : y3.heap.size ≤ w4.heap.size := hb.size
    have A_4 : Hid (BoxS w4 w.heap.size (.slice a n cap)) := A_3.out.next hb
    have D_4 : Hid (BoxS w4 (w.heap.size + 1) (.slice a' n' cap')) := D_3.out.next hb
    have P_4 : Hid (RowS w4 y3.heap.size w4.heap.size (some ⟨g4, 0, none⟩) n X) := RowS.of hi
    clear hb hi cA zA A_3 D_3 HB3
    have cD := D_4.out.1
    have zD := D_4.out.2
    go_wp2_with fail
    obtain ⟨w5, hw5⟩ : ∃ x, x = w4.alloc (.cells #[.slice (some ⟨g4, 0, none⟩) n n] 36) := ⟨_, rfl⟩
    have hb : Below w4.heap.size w4 w5 := hw5 ▸ Go.Joins.below_alloc1 _ _
    have HB5 : Hid (Below w.heap.size w w5) := below_next HB4.out hb
    have sz5 : w4.heap.size < w5.heap.size := by rw [hw5]; simp
    have A_5 : Hid (BoxS w5 w.heap.size (.slice a n cap)) := A_4.out.next hb
    have D_5 : Hid (BoxS w5 (w.heap.size + 1) (.slice a' n' cap')) := D_4.out.next hb
    have P_5 : Hid (RowS w5 y3.heap.size w4.heap.size (some ⟨g4, 0, none⟩) n X) := P_4.out.next hb
    have U_5 : Hid (BoxS w5 w4.heap.size (.slice (some ⟨g4, 0, none⟩) n n)) := hw5 ▸ BoxS.new _ _ _
    rw [← hw5]
    clear hb hw5 cD zD A_4 D_4 P_4 HB4
    refine (toClock_any _ _ _ Y _ hq' (HS.out.2.kept HB5.out)).mono ?_
    rintro r w6 ⟨⟨g6, rfl, hi⟩, hb⟩
    have HB6 : Hid (Below w.heap.size w w6) := below_next HB5.out hb
    have sz6 : w5.heap.size ≤ w6.heap.size := hb.size
    have A_6 : Hid (BoxS w6 w.heap.size (.slice a n cap)) := A_5.out.next hb
    have D_6 : Hid (BoxS w6 (w.heap.size + 1) (.slice a' n' cap')) := D_5.out.next hb
    have P_6 : Hid (RowS w6 y3.heap.size w4.heap.size (some ⟨g4, 0, none⟩) n X) := P_5.out.next hb
    have U_6 : Hid (BoxS w6 w4.heap.size (.slice (some ⟨g4, 0, none⟩) n n)) := U_5.out.next hb
    have Q_6 : Hid (RowS w6 w5.heap.size w6.heap.size (some ⟨g6, 0, none⟩) n' Y) := RowS.of hi
    clear hb hi A_5 D_5 P_5 U_5 HB5
    have cU := U_6.out.1
    have zU := U_6.out.2
    go_wp2_with fail
    obtain ⟨w7, hw7⟩ : ∃ x, x = w6.alloc (.cells #[.slice (some ⟨g6, 0, none⟩) n' n'] 36) := ⟨_, rfl⟩
    have hb : Below w6.heap.size w6 w7 := hw7 ▸ Go.Joins.below_alloc1 _ _
    have HB7 : Hid (Below w.heap.size w w7) := below_next HB6.out hb
    have sz7 : w6.heap.size < w7.heap.size := by rw [hw7]; simp
    have A_7 : Hid (BoxS w7 w.heap.size (.slice a n cap)) := A_6.out.next hb
    have D_7 : Hid (BoxS w7 (w.heap.size + 1) (.slice a' n' cap')) := D_6.out.next hb
    have P_7 : Hid (RowS w7 y3.heap.size w4.heap.size (some ⟨g4, 0, none⟩) n X) := P_6.out.next hb
    have U_7 : Hid (BoxS w7 w4.heap.size (.slice (some ⟨g4, 0, none⟩) n n)) := U_6.out.next hb
    have Q_7 : Hid (RowS w7 w5.heap.size w6.heap.size (some ⟨g6, 0, none⟩) n' Y) := Q_6.out.next hb
    have V_7 : Hid (BoxS w7 w6.heap.size (.slice (some ⟨g6, 0, none⟩) n' n')) := hw7 ▸ BoxS.new _ _ _
    rw [← hw7]
    clear hb hw7 cU zU A_6 D_6 P_6 U_6 Q_6 HB6
    refine (compareClock_any _ _ _ X _ _ _ Y _ hn hq' P_7.out.sl Q_7.out.sl).mono ?_
    rintro r w8 ⟨rfl, hb⟩
    have HB8 : Hid (Below w.heap.size w w8) := below_next HB7.out hb
    have sz8 : w7.heap.size ≤ w8.heap.size := hb.size
    have A_8 : Hid (BoxS w8 w.heap.size (.slice a n cap)) := A_7.out.next hb
    have D_8 : Hid (BoxS w8 (w.heap.size + 1) (.slice a' n' cap')) := D_7.out.next hb
    have P_8 : Hid (RowS w8 y3.heap.size w4.heap.size (some ⟨g4, 0, none⟩) n X) := P_7.out.next hb
    have U_8 : Hid (BoxS w8 w4.heap.size (.slice (some ⟨g4, 0, none⟩) n n)) := U_7.out.next hb
    have Q_8 : Hid (RowS w8 w5.heap.size w6.heap.size (some ⟨g6, 0, none⟩) n' Y) := Q_7.out.next hb
    have V_8 : Hid (BoxS w8 w6.heap.size (.slice (some ⟨g6, 0, none⟩) n' n')) := V_7.out.next hb
    clear hb A_7 D_7 P_7 U_7 Q_7 V_7 HB7
    generalize ccN X n Y n' = z at *
    generalize ccOk X n Y n' = ok at *
    have cU := U_8.out.1
    have zU := U_8.out.2
    have cA := A_8.out.1
    have zA := A_8.out.2
    have HQ := P_8.out
    have hbq := HB8.out
    go_upto_region 14 with fail
    go_cut [52] (fun s0 wx => s0 = .bool false ∧ Below w8.heap.size w8 wx)
    case first =>
      go_region_with (first
          | (go_at_call 53; refine (toClock_any a n cap X _ hn (HS.out.1.kept (by first | exact hbq | exact hbq.drew | exact hbq.drew.drew))).mono ?_; rintro r wp ⟨⟨gp, rfl, hip⟩, hbp⟩; have HIp : Hid (RowS wp w8.heap.size wp.heap.size (some ⟨gp, 0, none⟩) n X) := RowS.of hip; have HBp : Below w8.heap.size w8 wp := (by first | exact hbp | exact (below_drew w8).trans hbp); have HQp := Hid.intro (RowS.next HQ HBp); have cp := (HBp.cell (p := ⟨w4.heap.size, 0, none⟩) zU).trans cU; have zp : w8.heap.size ≤ wp.heap.size := HBp.size; clear hip hbp)
          | (go_at_call 54; refine (eqClock_same _ _ _ _ _ X _ hn HQp.out.sl HIp.out.sl).mono ?_; rintro r wq ⟨rfl, hbq2⟩; have HBq : Below wp.heap.size wp wq := (by first | exact hbq2 | exact (below_drew wp).trans hbq2); clear hbq2))
      all_goals (go_wp2_with fail; go_meet; exact ⟨rfl, HBp.trans (HBq.mono zp)⟩)
    case rest =>
      obtain ⟨rfl, hb⟩ := hcut
      obtain ⟨y9, hy⟩ : ∃ x, x = wc := ⟨wc, rfl⟩
      subst hy
      have HB9 : Hid (Below w.heap.size w y9) := below_next HB8.out hb
      have sz9 : w8.heap.size ≤ y9.heap.size := hb.size
      have A_9 : Hid (BoxS y9 w.heap.size (.slice a n cap)) := A_8.out.next hb
      have D_9 : Hid (BoxS y9 (w.heap.size + 1) (.slice a' n' cap')) := D_8.out.next hb
      have P_9 : Hid (RowS y9 y3.heap.size w4.heap.size (some ⟨g4, 0, none⟩) n X) := P_8.out.next hb
      have U_9 : Hid (BoxS y9 w4.heap.size (.slice (some ⟨g4, 0, none⟩) n n)) := U_8.out.next hb
      have Q_9 : Hid (RowS y9 w5.heap.size w6.heap.size (some ⟨g6, 0, none⟩) n' Y) := Q_8.out.next hb
      have V_9 : Hid (BoxS y9 w6.heap.size (.slice (some ⟨g6, 0, none⟩) n' n')) := V_8.out.next hb
      clear hb A_8 D_8 P_8 U_8 Q_8 V_8 HB8
      clear cU cA zU zA HQ hbq
      have cV := V_9.out.1
      have zV := V_9.out.2
      have cD := D_9.out.1
      have zD := D_9.out.2
      have HQ := Q_9.out
      have hbq := HB9.out
      go_upto_region 16 with fail
      go_cut [57] (fun s0 wx => s0 = .bool false ∧ Below y9.heap.size y9 wx)
      case first =>
        go_region_with (first
            | (go_at_call 53; refine (toClock_any a' n' cap' Y _ hq' (HS.out.2.kept (by first | exact hbq | exact hbq.drew | exact hbq.drew.drew))).mono ?_; rintro r wp ⟨⟨gp, rfl, hip⟩, hbp⟩; have HIp : Hid (RowS wp y9.heap.size wp.heap.size (some ⟨gp, 0, none⟩) n' Y) := RowS.of hip; have HBp : Below y9.heap.size y9 wp := (by first | exact hbp | exact (below_drew y9).trans hbp); have HQp := Hid.intro (RowS.next HQ HBp); have cp := (HBp.cell (p := ⟨w6.heap.size, 0, none⟩) zV).trans cV; have zp : y9.heap.size ≤ wp.heap.size := HBp.size; clear hip hbp)
            | (go_at_call 54; refine (eqClock_same _ _ _ _ _ Y _ hq' HQp.out.sl HIp.out.sl).mono ?_; rintro r wq ⟨rfl, hbq2⟩; have HBq : Below wp.heap.size wp wq := (by first | exact hbq2 | exact (below_drew wp).trans hbq2); clear hbq2))
        all_goals (go_wp2_with fail; go_meet; exact ⟨rfl, HBp.trans (HBq.mono zp)⟩)
      case rest =>
        obtain ⟨rfl, hb⟩ := hcut
        obtain ⟨y10, hy⟩ : ∃ x, x = wc := ⟨wc, rfl⟩
        subst hy
        have HB10 : Hid (Below w.heap.size w y10) := below_next HB9.out hb
        have sz10 : y9.heap.size ≤ y10.heap.size := hb.size
        have A_10 : Hid (BoxS y10 w.heap.size (.slice a n cap)) := A_9.out.next hb
        have D_10 : Hid (BoxS y10 (w.heap.size + 1) (.slice a' n' cap')) := D_9.out.next hb
        have P_10 : Hid (RowS y10 y3.heap.size w4.heap.size (some ⟨g4, 0, none⟩) n X) := P_9.out.next hb
        have U_10 : Hid (BoxS y10 w4.heap.size (.slice (some ⟨g4, 0, none⟩) n n)) := U_9.out.next hb
        have Q_10 : Hid (RowS y10 w5.heap.size w6.heap.size (some ⟨g6, 0, none⟩) n' Y) := Q_9.out.next hb
        have V_10 : Hid (BoxS y10 w6.heap.size (.slice (some ⟨g6, 0, none⟩) n' n')) := V_9.out.next hb
        clear hb A_9 D_9 P_9 U_9 Q_9 V_9 HB9
        clear cV cD zV zD HQ hbq
        have HE := HB10
        go_wp2
        go_ret
        exact ⟨rfl, HE.out⟩


theorem own : ownKnob Try.prog.godebug = none := by kernel_rfl
theorem laidOut : laidOutB Try.prog = true := by kernel_rfl

set_option maxRecDepth 100000 in
theorem lifted (os : Os) (started : os.Started) (H : Type) (enc : TypeId × Value → H) :
    ReturnsInHanded {} Try.checked os 11 .any (Rows.fnExactCompareClockSpec.pre6 enc Try.prog Try.f11 Rows.fnExactCompareClockRow.domain false) (Rows.fnExactCompareClockSpec.post enc Try.prog Try.f11 false true false false) := by
  refine returnsInHanded_of_change (C := Try.checked) own started (by kernel_rfl) Try.func11
    (ChangeSpec.witness6 (enc := enc) (C := Try.checked) false ⟨#[], #[.agg #[.slice none 0 0], .agg #[.slice none 0 0]], []⟩ 8 (by kernel_rfl) (by kernel_rfl) (by kernel_rfl) (by kernel_rfl)) ?_
  intro W base args ds gs before hval0 hW hcnd _
  have hval : ∀ (j : Nat) t v, Try.f11.params[j]? = some t → args[j]? = some v → Value.okWide Try.prog W .any base t v := hval0
  have hW' := hW
  obtain ⟨p, q, hA0, hV, rfl, hfz, hnd⟩ := hW
  have hA : DataW.TrodAll enc Try.prog W 0 (fun _ => true) true Try.f11.params.toList args.toList ds p := hA0
  rw [Try.params11] at hA hval
  obtain ⟨v0, vs0, d0, ds0, p0, q0, hargs, rfl, rfl, h0, r0⟩ := trodAll_cons hA
  obtain ⟨v1, vs1, d1, ds1, p1, q1, rfl, rfl, rfl, h1, r1⟩ := trodAll_cons r0
  obtain ⟨rfl, rfl, rfl⟩ := trodAll_nil r1
  obtain rfl : args = #[v0, v1] := by cases args; simp_all
  obtain ⟨rfl, rfl⟩ := trodVars_none hV
  have k0 := h0
  have lt0 : ∀ x ∈ p0, x.block < W.heap.size := by obtain ⟨m, hm⟩ := k0; exact DataW.trod_lt m _ _ _ hm
  obtain ⟨a0, len0, cap0, rfl, n0, X0, s0⟩ := open_clock (hval 0 69 v0 rfl rfl) h0
  have k1 := h1
  have lt1 : ∀ x ∈ p1, x.block < W.heap.size := by obtain ⟨m, hm⟩ := k1; exact DataW.trod_lt m _ _ _ hm
  obtain ⟨a1, len1, cap1, rfl, n1, X1, s1⟩ := open_clock (hval 1 69 v1 rfl rfl) h1
  clear hA0 hval0
  refine (walk (w := W) a0 len0 cap0 X0 n0 s0 a1 len1 cap1 X1 n1 s1).mono fun e W' ⟨he, bel⟩ => ?_
  subst he
  exact ⟨_, rfl, _, _, _, [], _, [], hW', trodAll_mk1 (shut_bool Try.underlying4 _), (trodAll_cons_mk (Below.trod laidOut (by kernel_rfl) (of_decide_eq_true (by kernel_rfl)) k0 bel lt0) (trodAll_cons_mk (Below.trod laidOut (by kernel_rfl) (of_decide_eq_true (by kernel_rfl)) k1 bel lt1) trodAll_mk0)), rfl, bel.frame _, fun h => by cases h⟩

theorem over : Rows.fnExactCompareClockRow.holds Try.pinned (OpenSpec.ofChange Rows.fnExactCompareClockSpec) :=
  OpenClaim.holds_of_wide 11 Try.f11 rfl rfl rfl rfl rfl rfl rfl ⟨rfl, rfl, rfl, rfl, rfl⟩ rfl rfl rfl rfl rfl (by kernel_rfl) Try.func11 (by kernel_rfl)
    (of_decide_eq_true (by kernel_rfl)) (by unfold Func.isWrapper; first | (rw [if_pos (by decide +kernel)]; kernel_rfl) | (rw [if_neg (by decide +kernel)]; exact ⟨rfl, rfl⟩))
    (fun os started H enc _ => lifted os started H enc)

end Go.Proofs.Ytodkiojapkalfaa.xCompareClock
namespace Go.Proofs.Ytodkiojapkalfaa
theorem xCompareClock_holds : Rows.FnExactCompareClockSaid := xCompareClock.over
#print axioms xCompareClock_holds
end Go.Proofs.Ytodkiojapkalfaa
