/- The contracts of numbersOf and FitsOrder. -/
import Derived.Test.YtkniokbioggkeaaFoG
import Derived.Test.YtkniokbioggkeaaOnU
import Derived.Test.YtkniokbioggkeaaHeP
import Derived.Test.YtkniokbioggkeaaCaL
namespace Go.Proofs.Ytkniokbioggkeaa
open Go.RowKit
set_option linter.unusedVariables false

set_option maxRecDepth 100000 in
set_option maxHeartbeats 4000000 in
theorem numbersOf_any (a : Option Addr) (n cap : Nat) (w : World) (hn : n ≤ 1048576) :
    Calls Try.prog 40 #[.slice a n cap] w fun r w' => ∃ a' cap', r = .returned (.slice a' n cap') ∧ Sl w' a' n 1 (intF idN) ∧ Below w.heap.size w w' := by
  obtain ⟨i0, hi0, hz0, hz1, hz2⟩ := info_parts info_int7
  go_enter Try.func40, Try.ntmps40
  go_wp2
  go_loopw [7, 3] (fun z v wr => ∃ k : Nat, k ≤ n ∧ z = .int .i64 k ∧ wr.ownsRow w.heap.size 3 1 v k (cellsL (intF idN) 1 k) ∧ Below w.heap.size w wr) (fun z _ _ => n - (intOf z).toNat)
  case atStart => exact ⟨0, Nat.zero_le _, rfl, World.ownsRow_nil _ _ _ _, Below.refl _ _⟩
  case round =>
    obtain ⟨k, hk, rfl, hown, hBr⟩ := hrel
    have hz := hBr.size
    by_cases hlt : k < n
    · have hlt' : (k : Int) < (n : Int) := by omega
      have HW : Hid (wr.ownsRow w.heap.size 3 1 u3 k (cellsL (intF idN) 1 k) ∧ Below w.heap.size w wr) := ⟨hown, hBr⟩
      have HNW : Hid (∀ j u, [Value.int .i64 (k : Int)][j]? = some u → (wr.alloc (.cells #[.int .i64 (k : Int)] 3)).cell? ((⟨wr.heap.size, 0, none⟩ : Addr).add j) = some u) := cells_new wr [.int .i64 (k : Int)] 3
      clear hown hBr
      go_wp2_with (first
        | (at_builtin; refine wpList_append_own_at _ rfl (.tmp 10) (.tmp 12) 32 rfl w.heap.size 3 i0 (.int .i64 0) 1 8 Try.underlying32 hi0 hz0 hz1 hz2 rfl (by decide) u3 k (cellsL (intF idN) 1 k) rfl (World.ownsRow.alloc HW.out.1 _) ⟨wr.heap.size, 0, none⟩ 1 1 [.int .i64 (k : Int)] rfl rfl HNW.out (by intro u hu; simp at hu; subst hu; rfl) (by unfold maxLen; omega) (by omega) (by simp <;> omega) ?_; intro v4 w4 hown hgrow hnil hwhere)
        | go_in)
      have HFF : Hid (w4.ownsRow w.heap.size 3 1 v4 (k + 1) (cellsL (intF idN) 1 (k + 1)) ∧ Below w.heap.size w w4) :=
        ⟨hown, (HW.out.2.alloc hz _).grown hgrow (by simp; omega) (fun j hj => (HW.out.1.lt j hj).1)⟩
      clear hown hgrow hnil hwhere HW HNW
      go_wp2
      go_roundw
      case rel => exact ⟨k + 1, by omega, by go_num, HFF.out.1, HFF.out.2⟩
      case measure => simp [intOf]; omega
    · have hkn : k = n := by omega
      subst hkn
      obtain ⟨a', cap', rfl, _, hrow⟩ := SRow.of (F := intF idN) (c := 1) hown
      have HH : Hid (Sl wr a' k 1 (intF idN) ∧ Below w.heap.size w wr) := ⟨hrow.sl, hBr⟩
      clear hown hBr hrow
      go_wp2
      go_ret
      exact ⟨a', cap', rfl, HH.out.1, HH.out.2⟩

set_option maxRecDepth 100000 in
set_option maxHeartbeats 8000000 in
theorem fitsOrder_any (a : Option Addr) (n cap : Nat) (V : Nat → CallV) (a' : Option Addr) (m cap' : Nat) (O : Nat → Int) (w : World) (hn : n ≤ 1048576) (hcap : n ≤ cap) (hm : m ≤ 1048576) (hz : ∀ i, i < n → (V i).f2.size ≤ maxLen ∧ (V i).f3.size ≤ maxLen) (hs : Sl w a n 6 (callF V)) (hs' : Sl w a' m 1 (intF O)) :
    Calls Try.prog 18 #[.slice a n cap, .slice a' m cap'] w fun r w' => FoPost V n O m w r w' := by
  have HS : Hid (Sl w a n 6 (callF V) ∧ Sl w a' m 1 (intF O) ∧ (∀ i, i < n → (V i).f2.size ≤ maxLen ∧ (V i).f3.size ≤ maxLen)) := ⟨hs, hs', hz⟩
  clear hs hs' hz
  go_enter Try.func18, Try.ntmps18
  go_wp2_with fail
  refine (goodCalls_any _ _ _ V _ hn hcap HS.out.2.2 HS.out.1).mono ?_
  rintro r w1 ⟨rfl, hb⟩
  have H1 : Hid (Below w.heap.size w w1) := hb
  clear hb
  cases e1 : calsB V n
  · have HN : Hid (FoPost V n O m w (.returned (.tuple #[.bool false, .bool false])) w1) := fo_post (fo_no1 e1) H1.out
    go_wp2
    exact bodyPost_ret (v := .tuple #[.bool false, .bool false]) (by simp [results, Try.results18, go_sem]) rfl HN.out
  go_wp2_with fail
  refine (numbersOf_any _ _ _ _ hn).mono ?_
  rintro r w2 ⟨a2, cap2, rfl, hr2, hb⟩
  have H2 : Hid (Sl w2 a2 n 1 (intF idN) ∧ Below w.heap.size w w2) := ⟨hr2, below_nx H1.out hb⟩
  clear hb hr2 H1
  go_wp2_with fail
  refine (hasEachOnce_any _ _ _ O _ _ _ idN _ hm hn (HS.out.2.1.below H2.out.2 (Nat.le_refl _)) H2.out.1).mono ?_
  rintro r w3 ⟨rfl, hb⟩
  have H3 : Hid (Below w.heap.size w w3) := below_nx H2.out.2 hb
  clear hb H2
  have HE : Hid (eachB O m (lstN idN n) = ordB O m n) := rfl
  rw [HE.out]
  clear HE
  cases e2 : ordB O m n
  · have HN : Hid (FoPost V n O m w (.returned (.tuple #[.bool false, .bool false])) w3) := fo_post (fo_no2 e2) H3.out
    go_wp2
    exact bodyPost_ret (v := .tuple #[.bool false, .bool false]) (by simp [results, Try.results18, go_sem]) rfl HN.out
  have HO : Hid (m = n ∧ ∀ i, i < m → inR (O i) 0 ((n : Int) - 1) = true ∧ hasN O (O i) i = false) := ordB_iff.1 e2
  have h7 : n ≤ 7 := (calsB_iff.1 e1).1
  have hm7 : m ≤ 7 := by have := HO.out.1; omega
  have HC : Hid (OneC w3 w3.heap.size a n cap V) := ⟨HS.out.1.below H3.out (Nat.le_refl _), Nat.le_refl _, h7, fun i hi => by have := cals_key e1 hi; omega⟩
  have HX : Hid (OneS w3 (w3.alloc (.cells #[.slice a n cap, .slice none 0 0, .slice none 0 0] 58)) w3.heap.size a n cap V [] []) :=
    ⟨[], _, _, ⟨Bx.new w3 [.slice a n cap, .slice none 0 0, .slice none 0 0] _, World.ownsRow_nil _ _ _ _, World.ownsRow_nil _ _ _ _, (fun b hb => by cases hb), fun p hp => by simp at hp⟩, Sees.nil V n, Go.Joins.below_alloc1 _ _⟩
  have HF : Hid (calsB V n = true ∧ ordB O m n = true) := ⟨e1, e2⟩
  clear e1 e2
  go_wp2
  go_loopw [23] (fun z wr => ∃ k : Nat, k ≤ m ∧ z = .int .i64 k ∧ fitP V O k ∧ OneS w3 wr w3.heap.size a n cap V (ordN O k) []) (fun z _ => m - (intOf z).toNat)
  case atStart => exact ⟨0, Nat.zero_le _, rfl, fun j hj => absurd hj (by omega), HX.out⟩
  case round =>
    obtain ⟨k, hk, rfl, hfit, hone⟩ := hrel
    clear HX
    have HQ : Hid (fitP V O k ∧ OneS w3 wr w3.heap.size a n cap V (ordN O k) []) := ⟨hfit, hone⟩
    have HBw : Hid (Below w.heap.size w wr) := by
      obtain ⟨_, _, _, _, _, h⟩ := hone
      exact H3.out.trans (h.mono H3.out.size)
    clear hfit hone
    by_cases hlt : k < m
    · have hlt' : (k : Int) < (m : Int) := by omega
      rcases HS.out.2.1.below HBw.out (Nat.le_refl _) with h | ⟨b, off, rfl, hbs, hE⟩
      · omega
      have d0 := int_cell hE hlt
      obtain ⟨i, hi⟩ : ∃ i : Nat, i = (O k).toNat := ⟨_, rfl⟩
      have hin : O k = (i : Int) ∧ i < n := by
        have := inR_iff.1 (HO.out.2 k hlt).1
        omega
      rw [hin.1] at d0
      have HI : Hid (i = (O k).toNat) := hi
      have hil := hin.2
      clear hi hin hE
      go_wp2_with fail
      refine (fits_any w3 _ w3.heap.size a n cap V (ordN O k) [] i HC.out hil HQ.out.2).mono ?_
      rintro r w4 ⟨rfl, hone⟩
      have H4 : Hid (OneS w3 w4 w3.heap.size a n cap V (ordN O k) [] ∧ fitP V O k) := ⟨hone, HQ.out.1⟩
      clear hone HQ d0 HBw
      cases ef : fitB V (ordN O k) i
      · have HN : Hid (FoPost V n O m w (.returned (.tuple #[.bool false, .bool true])) w4) := by
          refine fo_post (fo_un HF.out.1 HF.out.2 hlt (by rw [← HI.out]; exact ef)) ?_
          obtain ⟨_, _, _, _, _, h⟩ := H4.out.1
          exact H3.out.trans (h.mono H3.out.size)
        go_wp2
        exact bodyPost_ret (v := .tuple #[.bool false, .bool true]) (by simp [results, Try.results18, go_sem]) rfl HN.out
      have HFk : Hid (fitP V O (k + 1)) := fitP_up H4.out.2 (by rw [← HI.out]; exact ef)
      go_wp2_with fail
      refine (do_any w3 _ w3.heap.size a n cap V (ordN O k) [] i HC.out hil (by rw [ordN_len]; omega) H4.out.1).mono ?_
      rintro r w5 ⟨b2, b5, b6, rfl, hone⟩
      have H5 : Hid (OneS w3 w5 w3.heap.size a n cap V (ordN O (k + 1)) []) := by
        show OneS _ _ _ _ _ _ _ _ _
        rw [ordN_succ, ← HI.out]
        exact hone.sub (fun p hp => by simp at hp)
      clear hone H4
      go_wp2
      go_roundw
      case rel => exact ⟨k + 1, by omega, by go_num, HFk.out, H5.out⟩
      case measure => simp [intOf]; omega
    · have hkm : k = m := by omega
      have hlt' : ¬ (k : Int) < (m : Int) := by omega
      have HN : Hid (FoPost V n O m w (.returned (.tuple #[.bool true, .bool true])) wr) := fo_post (fo_yes HF.out.1 HF.out.2 (hkm ▸ HQ.out.1)) HBw.out
      clear HQ HBw hkm
      go_wp2
      exact bodyPost_ret (v := .tuple #[.bool true, .bool true]) (by simp [results, Try.results18, go_sem]) rfl HN.out
end Go.Proofs.Ytkniokbioggkeaa
