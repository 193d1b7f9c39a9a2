/- What is strict avoids cascades, what avoids them is recoverable, and what is one after the other is strict, for drawn ops: the law FnStrict, at every two lists of bytes. No condition. -/
import Derived.Test.YthbpjmnlgfahmaaDrS
import Derived.Test.YthbpjmnlgfahmaaDrOp
import Derived.Test.YthbpjmnlgfahmaaStG
import Derived.Test.YthbpjmnlgfahmaaRdF
import Derived.Test.YthbpjmnlgfahmaaSdI
import Derived.Test.YthbpjmnlgfahmaaOpenBE
import Derived.Test.YthbpjmnlgfahmaaWords
import Derived.ProofKit
import Derived.OpenShut
import Derived.ShutString
import Derived.ChangeOld
import Derived.Below
import Derived.Lib.SmallJoins
namespace Go.Proofs.Ythbpjmnlgfahmaa.fStrict
open Go.ChangeShapes Go.WideShapes Go.ChangeAt Go.RowKit
open Go.ChangeMaps (open_string shut_string)
set_option linter.unusedVariables false

theorem readsL_yes {K T : Nat → Int} {S : Nat → ByteArray} {i : Nat} (h : K i = 1) : (readsL K T S (i + 1)).length = (readsL K T S i).length + 1 := by simp [readsL, h]
theorem readsL_no {K T : Nat → Int} {S : Nat → ByteArray} {i : Nat} (h : ¬ K i = 1) : (readsL K T S (i + 1)).length = (readsL K T S i).length := by simp [readsL, h]

def SerQ (K T : Nat → Int) (S : Nat → ByteArray) (n : Nat) (L : List Nat) (ok : Bool) : Prop :=
  L.length ≤ n ∧ (ok = false → L.length = 0) ∧ (∀ i, i < L.length → atL L i < n) ∧ (ok = true →
    (recV (fun i => K (atL L i)) (fun i => T (atL L i)) (fun i => S (atL L i)) L.length).2.2 = true ∧
    goodO (okO (fun i => K (atL L i)) (fun i => T (atL L i)) (fun i => S (atL L i))) (fun i => K (atL L i)) (fun i => T (atL L i)) L.length = true ∧
    sdOk (fun i => K (atL L i)) (fun i => T (atL L i)) (fun i => S (atL L i)) L.length = true)
theorem serQ (K T : Nat → Int) (S : Nat → ByteArray) (O : Nat → Int) (n n' : Nat) : SerQ K T S n (soR K T S O n n') (soOk K T S O n n') := by
  rw [soR]
  cases h : soOk K T S O n n'
  · exact ⟨Nat.zero_le _, fun _ => rfl, (fun i hi => by simp at hi), fun e => by cases e⟩
  · rw [if_pos rfl]
    have h' := h
    rw [soOk, Bool.and_eq_true] at h'
    have hs := ser_of (goodO_out h'.1) (@of_decide_eq_true _ (Classical.propDecidable _) h'.2)
    exact ⟨hs.len, (fun e => by cases e), fun i hi => (hs.mem _).1 (atL_mem hi), fun _ => ⟨hs.strict, goodO_yes hs.goodP, hs.order⟩⟩

set_option maxRecDepth 100000 in
set_option maxHeartbeats 20000000 in
theorem walk (a : Option Addr) (n cap : Nat) (X : Nat → Int) (w : World) (hm : n ≤ maxLen) (hs : Sl w a n 1 (byF X)) (hX : ∀ i, i < n → 0 ≤ X i ∧ X i ≤ 255)
    (a' : Option Addr) (n' cap' : Nat) (Y : Nat → Int) (hm' : n' ≤ maxLen) (hs' : Sl w a' n' 1 (byF Y)) (hY : ∀ i, i < n' → 0 ≤ Y i ∧ Y i ≤ 255) :
    Calls Try.prog 5 #[.slice a n cap, .slice a' n' cap'] w fun r w' => r = .returned (.bool true) ∧ Below w.heap.size w w' := by
  unfold maxLen at hm hm'
  have HS : Hid ((Sl w a n 1 (byF X) ∧ ∀ i, i < n → 0 ≤ X i ∧ X i ≤ 255) ∧ Sl w a' n' 1 (byF Y) ∧ ∀ i, i < n' → 0 ≤ Y i ∧ Y i ≤ 255) := ⟨⟨hs, hX⟩, hs', hY⟩
  clear hs hs' hX hY
  by_cases hlt : (1048576 : Int) < wrap64 ((n : Int) + (n' : Int))
  case pos =>
    go_enter Try.func5, Try.ntmps5
    go_wp2
    go_ret
    exact ⟨rfl, Below.refl _ _⟩
  case neg =>
  go_enter Try.func5, Try.ntmps5
  go_wp2_with fail
  refine (drawRecoverable_any _ _ _ X _ hm HS.out.1.1 HS.out.1.2).mono ?_
  rintro r w1 ⟨a4, k, cap4, K, T, S, hk, hkc, rfl, hs4, hS, hb⟩
  have HH : Hid (Sl w1 a4 k 3 (opF K T S) ∧ (∀ i, i < k → (S i).size ≤ maxLen) ∧ Below w.heap.size w w1) := ⟨hs4, fun i hi => by have := hS i hi; unfold maxLen; omega, hb⟩
  clear hs4 hS hb
  go_wp2_with fail
  refine (recoverable_any _ _ _ K T S _ (by omega) hkc HH.out.2.1 HH.out.1).mono ?_
  rintro r w2 ⟨rfl, hb⟩
  have H2 : Hid (Below w1.heap.size w1 w2) := hb
  clear hb
  go_wp2_with fail
  refine (specRecoverable_any _ _ _ K T S _ (by omega) hkc HH.out.2.1 (HH.out.1.kept H2.out)).mono ?_
  rintro r w3 ⟨rfl, hb⟩
  have H3 : Hid (Below w1.heap.size w1 w3) := below_next H2.out hb
  clear hb H2
  have HC : Hid (((recV K T S k).2.2 = true → (recV K T S k).2.1 = true) ∧ ((recV K T S k).2.1 = true → (recV K T S k).1 = true)) := recV_chain K T S k
  generalize (recV K T S k).2.2 = v3 at *
  generalize (recV K T S k).2.1 = v2 at *
  generalize (recV K T S k).1 = v1 at *
  go_wp2_with fail
  refine (readsFrom_any _ _ _ K T S _ (by omega) hkc HH.out.2.1 (HH.out.1.kept H3.out)).mono ?_
  rintro r w4 ⟨⟨a5, cap5, rfl, _⟩, hb⟩
  have H4 : Hid (Below w1.heap.size w1 w4) := below_next H3.out hb
  clear hb H3
  go_wp2_with fail
  refine (specReadsFrom_any _ _ _ K T S _ (by omega) hkc HH.out.2.1 (HH.out.1.kept H4.out)).mono ?_
  rintro r w5 ⟨⟨a6, cap6, rfl, _⟩, hb⟩
  have H5 : Hid (Below w1.heap.size w1 w5) := below_next H4.out hb
  clear hb H4
  have HR : Hid (goodO (okO K T S) K T k = true → (rdL K T S k).length = (readsL K T S k).length) := fun h => by rw [rdL, if_pos h]
  have hrl : (rdL K T S k).length ≤ 1048576 := rdL_len K T S k (by omega)
  generalize goodO (okO K T S) K T k = gd at *
  generalize (rdL K T S k).length = rl at *
  have hV : (v1 = true ∧ v2 = true ∧ v3 = true) ∨ (v1 = true ∧ v2 = true ∧ v3 = false) ∨ (v2 = false ∧ v3 = false) := by
    have := HC.out
    revert this
    cases v1 <;> cases v2 <;> cases v3 <;> simp
  clear HC
  rcases hV with ⟨rfl, rfl, rfl⟩ | ⟨rfl, rfl, rfl⟩ | ⟨rfl, rfl⟩
  all_goals
    go_wp2
    go_loopw [104, 18] (fun x y wr => ∃ i : Nat, i ≤ k ∧ x = .int .i64 i ∧ y = .int .i64 ((readsL K T S i).length : Int) ∧ Below w1.heap.size w1 wr) (fun x _ _ => k - (intOf x).toNat)
    case atStart => exact ⟨0, Nat.zero_le _, rfl, rfl, H5.out⟩
    case round =>
      obtain ⟨i, hi, rfl, rfl, hBr⟩ := hrel
      clear H5
      have hri : (readsL K T S i).length ≤ i := readsL_len K T S i
      by_cases hik : i < k
      · have hik' : (i : Int) < (k : Int) := by omega
        rcases HH.out.1.kept hBr with h | ⟨b, off, rfl, hbs, hE⟩
        · omega
        obtain ⟨c0, c1, c2⟩ := op_cells hE hik
        have hz : w1.heap.size ≤ wr.heap.size := hBr.size
        have HB : Hid (Below w1.heap.size w1 wr) := hBr
        clear hBr hE
        by_cases h1 : K i = 1
        · have HL : Hid ((readsL K T S (i + 1)).length = (readsL K T S i).length + 1) := readsL_yes h1
          rw [h1] at c0
          generalize (readsL K T S i).length = z at *
          go_wp2
          go_roundw
          case rel => exact ⟨i + 1, by omega, by go_num, by rw [HL.out]; go_num, HB.out.alloc hz _⟩
          case measure => simp [intOf]; omega
        · have HL : Hid ((readsL K T S (i + 1)).length = (readsL K T S i).length) := readsL_no h1
          generalize (readsL K T S i).length = z at *
          have h1' : (K i == 1) = false := by simpa using h1
          go_wp2
          go_roundw
          case rel => exact ⟨i + 1, by omega, by go_num, by rw [HL.out], HB.out.alloc hz _⟩
          case measure => simp [intOf]; omega
      · have hik2 : i = k := by omega
        subst hik2
        have HB : Hid (Below w.heap.size w wr) := HH.out.2.2.trans (hBr.mono HH.out.2.2.size)
        clear hBr HH
        generalize (readsL K T S i).length = z at *
        cases gd
        rotate_left
        have hrr := HR.out rfl
        subst hrr
        all_goals
          clear HR
          go_wp2_with fail
          refine (drawSerial_any _ _ _ Y _ hm' (HS.out.2.1.below HB.out (Nat.le_refl _)) HS.out.2.2).mono ?_
          rintro r w6 ⟨b4, q, dap4, K', T', S', b5, m, dap5, O, hq, hqc, hm20, hmc, rfl, hs4, hS, hs5, hb⟩
          have H6 : Hid (Sl w6 b4 q 3 (opF K' T' S') ∧ (∀ i, i < q → (S' i).size ≤ maxLen) ∧ Sl w6 b5 m 1 (intF O) ∧ Below w.heap.size w w6) := ⟨hs4, fun i hi => by have := hS i hi; unfold maxLen; omega, hs5, HB.out.trans (hb.mono HB.out.size)⟩
          clear hs4 hS hs5 hb HB HS
          go_wp2_with fail
          refine (serialOps_cap _ _ _ K' T' S' _ _ _ O _ (by omega) (by omega) hqc H6.out.2.1 H6.out.1 H6.out.2.2.1).mono ?_
          rintro r w7 ⟨⟨c4, eap4, rfl, hx, hcx⟩, hb⟩
          have H7 : Hid (Below w6.heap.size w6 w7 ∧ SRow w7 w6.heap.size w7.heap.size c4 (soR K' T' S' O q m).length 3 (opL K' T' S' (soR K' T' S' O q m))) := ⟨hb, hx⟩
          clear hb hx
          go_wp2_with fail
          refine (specSerialOps_any _ _ _ K' T' S' _ _ _ O _ (by omega) (by omega) hqc hmc H6.out.2.1 (H6.out.1.kept H7.out.1) (H6.out.2.2.1.kept H7.out.1)).mono ?_
          rintro r w8 ⟨⟨d4, fap4, rfl, hy⟩, hb⟩
          have H8 : Hid (Below w.heap.size w w8 ∧ Sl w8 c4 (soR K' T' S' O q m).length 3 (opL K' T' S' (soR K' T' S' O q m)) ∧ Sl w8 d4 (soR K' T' S' O q m).length 3 (opL K' T' S' (soR K' T' S' O q m))) := ⟨below_next (below_next H6.out.2.2.2 H7.out.1) hb, (H7.out.2.next hb).sl, hy.sl⟩
          have HQ : Hid (SerQ K' T' S' q (soR K' T' S' O q m) (soOk K' T' S' O q m)) := serQ K' T' S' O q m
          have HM : Hid (∀ i, i < q → (S' i).size ≤ maxLen) := H6.out.2.1
          have hq' : q ≤ 1048576 := by omega
          generalize soR K' T' S' O q m = L at *
          generalize soOk K' T' S' O q m = ok at *
          have hL : L.length ≤ 1048576 := Nat.le_trans HQ.out.1 hq'
          clear hb hy H6 H7
          cases ok
          · have hL0 : L.length = 0 := HQ.out.2.1 rfl
            obtain ⟨z2, hz2⟩ : ∃ z2, z2 = L.length := ⟨_, rfl⟩
            rw [← hz2] at H8 hL0 hcx ⊢
            clear hz2 HQ hL
            subst hL0
            go_wp2_with fail
            refine (sameOps_same _ _ _ _ _ (fun i => K' (atL L i)) (fun i => T' (atL L i)) (fun i => S' (atL L i)) _ (by omega) H8.out.2.1 H8.out.2.2).mono ?_
            rintro r w9 ⟨rfl, hb⟩
            have H9 : Hid (Below w.heap.size w w9) := below_next H8.out.1 hb
            clear hb H8
            go_wp2
            go_ret
            exact ⟨rfl, H9.out⟩
          · go_wp2_with fail
            refine (sameOps_same _ _ _ _ _ (fun i => K' (atL L i)) (fun i => T' (atL L i)) (fun i => S' (atL L i)) _ hL H8.out.2.1 H8.out.2.2).mono ?_
            rintro r w9 ⟨rfl, hb⟩
            have H9 : Hid (Below w.heap.size w w9 ∧ Sl w9 c4 L.length 3 (opL K' T' S' L)) := ⟨below_next H8.out.1 hb, H8.out.2.1.kept hb⟩
            clear hb H8
            go_wp2_with fail
            refine (recoverable_any _ _ _ (fun i => K' (atL L i)) (fun i => T' (atL L i)) (fun i => S' (atL L i)) _ hL hcx (fun i hi => HM.out _ (HQ.out.2.2.1 i hi)) H9.out.2).mono ?_
            rintro r w10 ⟨rfl, hb⟩
            have H10 : Hid (Below w.heap.size w w10 ∧ Sl w10 c4 L.length 3 (opL K' T' S' L)) := ⟨below_next H9.out.1 hb, H9.out.2.kept hb⟩
            rw [(HQ.out.2.2.2 rfl).1, (HQ.out.2.2.2 rfl).2.1]
            clear hb H9
            generalize (recV (fun i => K' (atL L i)) (fun i => T' (atL L i)) (fun i => S' (atL L i)) L.length).1 = y1 at *
            generalize (recV (fun i => K' (atL L i)) (fun i => T' (atL L i)) (fun i => S' (atL L i)) L.length).2.1 = y2 at *
            go_wp2_with fail
            refine (serialOrder_any _ _ _ (fun i => K' (atL L i)) (fun i => T' (atL L i)) (fun i => S' (atL L i)) _ hL hcx (fun i hi => HM.out _ (HQ.out.2.2.1 i hi)) H10.out.2).mono ?_
            rintro r w11 ⟨⟨e4, gap4, rfl, hx⟩, hb⟩
            rw [(HQ.out.2.2.2 rfl).2.2]
            have H11 : Hid (Below w.heap.size w w11) := below_next H10.out.1 hb
            clear hb hx H10 HQ
            generalize (sdL (fun i => K' (atL L i)) (fun i => T' (atL L i)) (fun i => S' (atL L i)) L.length).length = z3 at *
            go_wp2
            go_ret
            exact ⟨rfl, H11.out⟩


theorem own : ownKnob Try.prog.godebug = none := by kernel_rfl
theorem laidOut : laidOutB Try.prog = true := by kernel_rfl

set_option maxRecDepth 100000 in
theorem lifted (os : Os) (started : os.Started) (H : Type) (enc : TypeId × Value → H) :
    ReturnsInHanded {} Try.checked os 5 .any (Rows.fnStrictSpec.pre6 enc Try.prog Try.f5 Rows.fnStrictRow.domain false) (Rows.fnStrictSpec.post enc Try.prog Try.f5 false true false false) := by
  refine returnsInHanded_of_change (C := Try.checked) own started (by kernel_rfl) Try.func5
    (ChangeSpec.witness6 (enc := enc) (C := Try.checked) false ⟨#[], #[.slice none 0 0, .slice none 0 0], []⟩ 8 (by kernel_rfl) (by kernel_rfl) (by kernel_rfl) (by kernel_rfl)) ?_
  intro W base args ds gs before hval0 hW hcnd _
  have hval : ∀ (j : Nat) t v, Try.f5.params[j]? = some t → args[j]? = some v → Value.okWide Try.prog W .any base t v := hval0
  have hW' := hW
  obtain ⟨p, q, hA0, hV, rfl, hfz, hnd⟩ := hW
  have hA : DataW.TrodAll enc Try.prog W 0 (fun _ => true) true Try.f5.params.toList args.toList ds p := hA0
  rw [Try.params5] at hA hval
  obtain ⟨v0, vs0, d0, ds0, p0, q0, hargs, rfl, rfl, h0, r0⟩ := trodAll_cons hA
  obtain ⟨v1, vs1, d1, ds1, p1, q1, rfl, rfl, rfl, h1, r1⟩ := trodAll_cons r0
  obtain ⟨rfl, rfl, rfl⟩ := trodAll_nil r1
  obtain rfl : args = #[v0, v1] := by cases args; simp_all
  obtain ⟨rfl, rfl⟩ := trodVars_none hV
  have k0 := h0
  have lt0 : ∀ x ∈ p0, x.block < W.heap.size := by obtain ⟨m, hm⟩ := k0; exact DataW.trod_lt m _ _ _ hm
  obtain ⟨a0, len0, cap0, rfl⟩ := okWide_slice Try.underlying22 (hval 0 22 v0 rfl rfl)
  obtain ⟨n0, X0, s0, b0⟩ := open_bytes h0
  have k1 := h1
  have lt1 : ∀ x ∈ p1, x.block < W.heap.size := by obtain ⟨m, hm⟩ := k1; exact DataW.trod_lt m _ _ _ hm
  obtain ⟨a1, len1, cap1, rfl⟩ := okWide_slice Try.underlying22 (hval 1 22 v1 rfl rfl)
  obtain ⟨n1, X1, s1, b1⟩ := open_bytes h1
  clear hA0 hval0
  refine (walk (w := W) a0 len0 cap0 X0 n0 s0 b0 a1 len1 cap1 X1 n1 s1 b1).mono fun e W' ⟨he, bel⟩ => ?_
  subst he
  exact ⟨_, rfl, _, _, _, [], _, [], hW', trodAll_mk1 (shut_bool Try.underlying4 _), (trodAll_cons_mk (Below.trod laidOut (by kernel_rfl) (of_decide_eq_true (by kernel_rfl)) k0 bel lt0) (trodAll_cons_mk (Below.trod laidOut (by kernel_rfl) (of_decide_eq_true (by kernel_rfl)) k1 bel lt1) trodAll_mk0)), rfl, bel.frame _, fun h => by cases h⟩

set_option maxHeartbeats 40000000 in
theorem closed : joinedFacts Try.pinned.checked.prog 5 Try.f5 Rows.fnStrictSpec Rows.fnStrictRow = true := by
  unfold joinedFacts
  repeat' (first | (with_reducible refine both ?_ ?_) | (with_reducible exact may_enter') | (with_reducible refine lifts_eq ?_) | (with_reducible refine make_eq ?_) | as_aux_lemma => kernel_rfl)
theorem named : Try.pinned.checked.prog.funcNamed Rows.fnStrictRow.func = some 5 := by kernel_rfl
theorem over : Rows.fnStrictRow.holds Try.pinned (OpenSpec.ofChange Rows.fnStrictSpec) :=
  OpenClaim.holds_of_wide 5 Try.f5 rfl rfl rfl rfl rfl rfl rfl ⟨rfl, rfl, rfl, rfl, rfl⟩ rfl rfl rfl rfl rfl named Try.func5 closed
    (of_decide_eq_true (by as_aux_lemma => kernel_rfl)) (by unfold Func.isWrapper; first | (rw [if_pos (by decide +kernel)]; kernel_rfl) | (rw [if_neg (by decide +kernel)]; exact ⟨rfl, rfl⟩))
    (fun os started H enc _ => lifted os started H enc)

end Go.Proofs.Ythbpjmnlgfahmaa.fStrict
namespace Go.Proofs.Ythbpjmnlgfahmaa
theorem fStrict_holds : Rows.FnStrictSaid := fStrict.over
#print axioms fStrict_holds
end Go.Proofs.Ythbpjmnlgfahmaa
