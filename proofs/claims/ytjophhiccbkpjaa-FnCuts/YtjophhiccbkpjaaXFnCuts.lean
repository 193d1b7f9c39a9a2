/- What two cuts have both, and what either has, are good cuts where both are (a lattice), for drawn events and cuts: the law FnCuts, at every two lists of bytes. No condition. -/
import Derived.Test.YtjophhiccbkpjaaDrX
import Derived.Test.YtjophhiccbkpjaaCutG
import Derived.Test.YtjophhiccbkpjaaOpenBE
import Derived.Test.YtjophhiccbkpjaaWords
import Derived.ProofKit
import Derived.OpenShut
import Derived.ShutString
import Derived.ChangeOld
import Derived.Below
import Derived.Lib.SmallJoins
namespace Go.Proofs.Ytjophhiccbkpjaa.fCuts
open Go.ChangeShapes Go.WideShapes Go.ChangeAt Go.RowKit
open Go.ChangeMaps (open_string shut_string)
set_option linter.unusedVariables false

theorem vec_sl {w : World} {b : Nat} {Z : Nat → Int} (h : Vec w b Z) : Sl w (some ⟨b, 0, none⟩) 6 1 (intF Z) := by
  refine Or.inr ⟨b, 0, rfl, h.2, fun i hi j hj => ?_⟩
  have : j = 0 := by omega
  subst this
  rw [Nat.mul_one, Nat.add_zero, Nat.zero_add]
  exact (h.1 i hi).1
theorem ah_facts {K P M : Nat → Int} {k i j : Nat} (hg : goodE K P M k = true) (hi : i < k) (hj : j < k) : ahOk K P M k i j = true ∧ ahB K P M k i j = ahd K P M i j := by
  have h1 : inR (i : Int) 0 ((k : Int) - 1) = true := inR_iff.2 (by omega)
  have h2 : inR (j : Int) 0 ((k : Int) - 1) = true := inR_iff.2 (by omega)
  have h3 : ahOk K P M k i j = true := by simp [ahOk, hg, h1, h2]
  exact ⟨h3, by simp [ahB, h3]⟩

set_option maxRecDepth 100000 in
set_option maxHeartbeats 20000000 in
theorem walk (a : Option Addr) (n cap : Nat) (X : Nat → Int) (w : World) (hm : n ≤ maxLen) (hs : Sl w a n 1 (byF X)) (hX : ∀ i, i < n → 0 ≤ X i ∧ X i ≤ 255)
    (a' : Option Addr) (n' cap' : Nat) (Y : Nat → Int) (hm' : n' ≤ maxLen) (hs' : Sl w a' n' 1 (byF Y)) (hY : ∀ i, i < n' → 0 ≤ Y i ∧ Y i ≤ 255) :
    Calls Try.prog 5 #[.slice a n cap, .slice a' n' cap'] w fun r w' => r = .returned (.bool true) ∧ Below w.heap.size w w' := by
  unfold maxLen at hm hm'
  have HS : Hid ((Sl w a n 1 (byF X) ∧ ∀ i, i < n → 0 ≤ X i ∧ X i ≤ 255) ∧ Sl w a' n' 1 (byF Y) ∧ ∀ i, i < n' → 0 ≤ Y i ∧ Y i ≤ 255) := ⟨⟨hs, hX⟩, hs', hY⟩
  clear hs hs' hX hY
  obtain ⟨i0, hi0, hz0, hz1, hz2⟩ := info_parts info_int
  by_cases hlt : (1048576 : Int) < wrap64 ((n : Int) + (n' : Int))
  case pos =>
    go_enter Try.func5, Try.ntmps5
    go_wp2
    go_ret
    exact ⟨rfl, Below.refl _ _⟩
  case neg =>
  go_enter Try.func5, Try.ntmps5
  go_wp2_with fail
  refine (drawGoodCut_any _ _ _ X _ hm HS.out.1.1 HS.out.1.2).mono ?_
  rintro _ w1 ⟨a4, k, cap4, K, P, M, b, Z, hk, hkc, rfl, hs4, hM, hZ, hb⟩
  have HH : Hid (Sl w1 a4 k 3 (evF K P M) ∧ (∀ i, i < k → -9223372036854775808 ≤ M i ∧ M i ≤ 9223372036854775807) ∧ Sl w1 (some ⟨b, 0, none⟩) 6 1 (intF Z) ∧ Below w.heap.size w w1) := ⟨hs4, hM, vec_sl hZ, hb⟩
  clear hs4 hM hZ hb
  go_wp2_with fail
  refine (goodCut_any _ _ _ K P M _ _ _ Z _ (by omega) (by omega) HH.out.2.1 HH.out.1 HH.out.2.2.1).mono ?_
  rintro _ w2 ⟨rfl, hb⟩
  have H2 : Hid (Below w1.heap.size w1 w2) := hb
  clear hb
  go_wp2_with fail
  refine (specGoodCut_any _ _ _ K P M _ _ _ Z _ (by omega) hkc (by omega) (HH.out.1.kept H2.out) (HH.out.2.2.1.kept H2.out)).mono ?_
  rintro _ w3 ⟨rfl, hb⟩
  have H3 : Hid (Below w1.heap.size w1 w3 ∧ Below w.heap.size w w3) := ⟨below_next H2.out hb, below_next (below_next HH.out.2.2.2 H2.out) hb⟩
  clear hb H2
  obtain ⟨gb, hgb⟩ : ∃ gb, gb = gcB K P M k Z 6 := ⟨_, rfl⟩
  obtain ⟨ok, hok⟩ : ∃ ok, ok = gcOk K P M k Z 6 := ⟨_, rfl⟩
  have HG : Hid (gb = gcB K P M k Z 6 ∧ ok = gcOk K P M k Z 6 ∧ (ok = false → gb = false)) := ⟨hgb, hok, fun h => by rw [hgb, gcB, ← hok, h]; rfl⟩
  rw [← hgb, ← hok]
  clear hgb hok
  cases ok
  · have hg0 := HG.out.2.2 rfl
    subst hg0
    clear HG HH
    go_wp2
    go_ret
    exact ⟨rfl, H3.out.2⟩
  have HOK : Hid (gcOk K P M k Z 6 = true) := HG.out.2.1.symm
  have HGE : Hid (goodE K P M k = true) := (gc_vf HOK.out).2.2.1
  by_cases hk0 : 0 < k
  · have hk0' : (0 : Int) < (k : Int) := by omega
    go_wp2_with fail
    refine (numberOf_any _ _ _ Y _ hm' (HS.out.2.1.below H3.out.2 (Nat.le_refl _)) HS.out.2.2).mono ?_
    rintro _ w4 ⟨v, hv, rfl, hb⟩
    have H4 : Hid (Below w1.heap.size w1 w4 ∧ Below w.heap.size w w4) := ⟨below_next H3.out.1 hb, below_next H3.out.2 hb⟩
    clear hb H3 HS
    obtain ⟨ix, hix, hixe⟩ : ∃ ix : Nat, ix < k ∧ (v : Int) % (k : Int) = (ix : Int) := ⟨v % k, Nat.mod_lt _ hk0, by simp⟩
    have hkne : ¬ (k : Int) = 0 := by omega
    go_wp2_with (first
      | (at_make; refine wpList_make_full _ rfl (.const (.int .i64 6)) (.const (.int .i64 6)) 25 rfl w4.heap.size 3 i0 (.int .i64 0) 1 Try.underlying25 hi0 hz0 (by assumption) .i64 .i64 _ _ 6 rfl rfl rfl rfl (by rw [hz2]; omega) (by unfold maxLen; omega) (Nat.le_refl _) ?_; intro w5 hown hgrow)
      | fail)
    have HT : Hid (Vec w5 w4.heap.size (bN (vc K P M (ix + 1)) P 0) ∧ Below w4.heap.size w4 w5) := ⟨(vec_made (by simpa using hown)).congr (fun p _ => bN_zero.symm), (Below.refl _ _).grown hgrow (Nat.le_refl _) (fun k hk => by cases hk)⟩
    clear hown hgrow
    obtain ⟨g5, hg5'⟩ : ∃ g5, g5 = w4.heap.size := ⟨_, rfl⟩
    have hg5 : w4.heap.size ≤ g5 := by omega
    rw [show Vec w5 w4.heap.size (bN (vc K P M (ix + 1)) P 0) = Vec w5 g5 (bN (vc K P M (ix + 1)) P 0) by rw [hg5']] at HT
    rw [← hg5']
    clear hg5'
    go_wp2
    go_loopw [73] (fun x wr => ∃ i : Nat, i ≤ k ∧ x = .int .i64 i ∧ Vec wr g5 (bN (vc K P M (ix + 1)) P i) ∧ Below w4.heap.size w4 wr) (fun x _ => k - (intOf x).toNat)
    case atStart => exact ⟨0, Nat.zero_le _, rfl, HT.out⟩
    case round =>
      obtain ⟨i, hi, rfl, hT⟩ := hrel
      clear HT
      by_cases hik : i < k
      · have hik' : (i : Int) < (k : Int) := by omega
        rcases HH.out.1.kept (below_next H4.out.1 hT.2) with h | ⟨be, off, rfl, hbs, hE⟩
        · omega
        obtain ⟨c0, c1, c2⟩ := ev_cells hE hik
        obtain ⟨q, hq, hq6⟩ := (ev_kind (good_evs HGE.out i hik)).1
        rw [hq] at c1
        have HQ : Hid (P i = (q : Int)) := hq
        obtain ⟨f1, f2⟩ := ah_facts HGE.out hik hix
        obtain ⟨ab, hab⟩ : ∃ ab, ab = ahB K P M k i ix := ⟨_, rfl⟩
        have HAB : Hid ((ab = true ∨ i = ix) ↔ cnt P q (i + 1) ≤ vc K P M (ix + 1) q) := by
          rw [hab, f2]; exact hit_iff hq
        have HJ : Hid (∀ W : World, Sl W (some ⟨be, off, none⟩) k 3 (evF K P M) → Calls Try.prog 19 #[.slice (some ⟨be, off, none⟩) k cap4, .int .i64 i, .int .i64 ix] W fun r w' => r = .returned (.tuple #[.bool ab, .bool true]) ∧ Below W.heap.size W w') := fun W h => by
          have := specAheadOf_any (some ⟨be, off, none⟩) k cap4 K P M i ix W (by omega) hkc h
          unfold AhPost at this
          rw [f1, ← hab] at this; exact this
        clear f1 f2 hab hq
        have HE : Hid (Vec (wr.alloc (.cells #[.int .i64 (K i), .int .i64 (q : Int), .int .i64 (M i)] 49)) g5 (bN (vc K P M (ix + 1)) P i) ∧ Below w4.heap.size w4 (wr.alloc (.cells #[.int .i64 (K i), .int .i64 (q : Int), .int .i64 (M i)] 49)) ∧ Bx (wr.alloc (.cells #[.int .i64 (K i), .int .i64 (q : Int), .int .i64 (M i)] 49)) wr.heap.size [.int .i64 (K i), .int .i64 (q : Int), .int .i64 (M i)]) :=
          ⟨hT.1.below (Go.Joins.below_alloc1 _ _) hT.1.2, below_next hT.2 (Go.Joins.below_alloc1 _ _), Bx.new wr [.int .i64 (K i), .int .i64 (q : Int), .int .i64 (M i)] _⟩
        have hgl : g5 < wr.heap.size := hT.1.2
        clear hT hE
        go_wp2_with fail
        refine (HJ.out _ (HH.out.1.kept (below_next H4.out.1 HE.out.2.1))).mono ?_
        rintro _ w6 ⟨rfl, hb⟩
        have H6 : Hid (Vec w6 g5 (bN (vc K P M (ix + 1)) P i) ∧ Below w4.heap.size w4 w6) := ⟨HE.out.1.below hb HE.out.1.2, below_next HE.out.2.1 hb⟩
        have e1 := (HE.out.2.2.next hb).cell 1 rfl
        have el := (HE.out.2.2.next hb).2
        clear hb HE HJ c0 c1 c2
        have hq6' : (q : Int) < 6 := by omega
        obtain ⟨z, hz⟩ : ∃ z, z = bN (vc K P M (ix + 1)) P i q := ⟨_, rfl⟩
        have hzb : 0 ≤ z ∧ z ≤ 62 := by have := bN_bd (K := K) (P := P) (M := M) (ix := ix) (i := i) (p := q); omega
        have rz : w6.cell? ⟨g5, q, none⟩ = some (.int .i64 z) := by rw [hz]; exact (H6.out.1.1 q hq6).1
        have fz := (H6.out.1.1 q hq6).2
        have hbl := H6.out.1.2
        have HZ : Hid (z = bN (vc K P M (ix + 1)) P i q) := hz
        clear hz
        have HHIT : Hid ((ab = true ∨ i = ix) → Vec (w6.setCell ⟨g5, q, none⟩ (.int .i64 (z + 1))) g5 (bN (vc K P M (ix + 1)) P (i + 1)) ∧ Below w4.heap.size w4 (w6.setCell ⟨g5, q, none⟩ (.int .i64 (z + 1)))) := fun h => by
          refine ⟨(H6.out.1.set hq6 (z + 1)).congr ?_, H6.out.2.setCell (p := ⟨g5, q, none⟩) hg5 _⟩
          rw [HZ.out]; exact bN_hit HQ.out (HAB.out.1 h)
        have HNO : Hid (¬ (ab = true ∨ i = ix) → Vec w6 g5 (bN (vc K P M (ix + 1)) P (i + 1)) ∧ Below w4.heap.size w4 w6) := fun h => ⟨H6.out.1.congr (bN_no HQ.out (fun e => h (HAB.out.2 e))), H6.out.2⟩
        clear H6 HAB HQ HZ
        cases ab
        · by_cases hii : i = ix
          · have hii' : ((i : Int) == (ix : Int)) = true := by simp [hii]
            have HF := HHIT.out (Or.inr hii)
            have HF2 : Hid (Vec (w6.setCell ⟨g5, q, none⟩ (.int .i64 (z + 1))) g5 (bN (vc K P M (ix + 1)) P (i + 1)) ∧ Below w4.heap.size w4 (w6.setCell ⟨g5, q, none⟩ (.int .i64 (z + 1)))) := HF
            clear HF HHIT HNO hii
            go_wp2
            go_roundw
            case rel => exact ⟨i + 1, by omega, by go_num, HF2.out⟩
            case measure => simp [intOf]; omega
          · have hii' : ((i : Int) == (ix : Int)) = false := by simp; omega
            have HF2 : Hid (Vec w6 g5 (bN (vc K P M (ix + 1)) P (i + 1)) ∧ Below w4.heap.size w4 w6) := HNO.out (fun h => by rcases h with h | h; cases h; exact hii h)
            clear HHIT HNO hii
            go_wp2
            go_roundw
            case rel => exact ⟨i + 1, by omega, by go_num, HF2.out⟩
            case measure => simp [intOf]; omega
        · have HF2 : Hid (Vec (w6.setCell ⟨g5, q, none⟩ (.int .i64 (z + 1))) g5 (bN (vc K P M (ix + 1)) P (i + 1)) ∧ Below w4.heap.size w4 (w6.setCell ⟨g5, q, none⟩ (.int .i64 (z + 1)))) := HHIT.out (Or.inl rfl)
          clear HHIT HNO
          go_wp2
          go_roundw
          case rel => exact ⟨i + 1, by omega, by go_num, HF2.out⟩
          case measure => simp [intOf]; omega
      · have hik' : ¬ (i : Int) < (k : Int) := by omega
        have hik2 : i = k := by omega
        subst hik2
        have HO : Hid (gcOk K P M i (bN (vc K P M (ix + 1)) P i) 6 = true ∧ cutAll K P M (bN (vc K P M (ix + 1)) P i) i = true) := other_good HGE.out
        obtain ⟨V, hV⟩ : ∃ V, V = bN (vc K P M (ix + 1)) P i := ⟨_, rfl⟩
        rw [← hV] at HO hT
        clear hV
        have HT : Hid (Sl wr (some ⟨g5, 0, none⟩) 6 1 (intF V) ∧ Below w1.heap.size w1 wr ∧ Below w.heap.size w wr) := ⟨vec_sl hT.1, below_next H4.out.1 hT.2, below_next H4.out.2 hT.2⟩
        clear hT H4
        have HC : Hid (∀ W : World, Sl W a4 i 3 (evF K P M) → Sl W (some ⟨g5, 0, none⟩) 6 1 (intF V) → Calls Try.prog 28 #[.slice a4 i cap4, .slice (some ⟨g5, 0, none⟩) 6 6] W fun r w' => r = .returned (.tuple #[.bool true, .bool true]) ∧ Below W.heap.size W w') := fun W h h' => by
          have := goodCut_any a4 i cap4 K P M (some ⟨g5, 0, none⟩) 6 6 V W (by omega) (by omega) HH.out.2.1 h h'
          unfold GcPost at this
          rw [show gcB K P M i V 6 = true by rw [gcB, HO.out.1, HO.out.2]; rfl, HO.out.1] at this; exact this
        go_wp2_with fail
        refine (HC.out _ (HH.out.1.kept HT.out.2.1) HT.out.1).mono ?_
        rintro _ w7 ⟨rfl, hb⟩
        have H7 : Hid (Sl w7 (some ⟨g5, 0, none⟩) 6 1 (intF V) ∧ Below w1.heap.size w1 w7 ∧ Below w.heap.size w w7) := ⟨HT.out.1.kept hb, below_next HT.out.2.1 hb, below_next HT.out.2.2 hb⟩
        clear hb HT HC
        obtain ⟨s, hs⟩ : ∃ s, s = w7.heap.size := ⟨_, rfl⟩
        obtain ⟨w8, hw8⟩ : ∃ w8, w8 = w7.alloc (.cells #[.bool false, .bool true] 4) := ⟨_, rfl⟩
        have H8 : Hid (Sl w8 (some ⟨g5, 0, none⟩) 6 1 (intF V) ∧ Below w1.heap.size w1 w8 ∧ Below w.heap.size w w8 ∧ Bx w8 s [.bool false, .bool true]) := by
          rw [hw8, hs]
          exact ⟨H7.out.1.kept (Go.Joins.below_alloc1 _ _), below_next H7.out.2.1 (Go.Joins.below_alloc1 _ _), below_next H7.out.2.2 (Go.Joins.below_alloc1 _ _), Bx.new w7 [.bool false, .bool true] _⟩
        clear H7
        go_wp2
        rw [← hs, ← hw8]
        clear hs hw8
        go_loopw [113] (fun x wr => ∃ j : Nat, j ≤ 2 ∧ x = .int .i64 j ∧ Below w8.heap.size w8 wr) (fun x _ => 2 - (intOf x).toNat)
        case atStart => exact ⟨0, Nat.zero_le _, rfl, Below.refl _ _⟩
        case round =>
          obtain ⟨j, hj, rfl, hBr⟩ := hrel
          by_cases hj2 : j < 2
          · have hj2' : (j : Int) < 2 := by omega
            obtain ⟨mt, cm⟩ : ∃ mt : Bool, wr.cell? ⟨s, j, none⟩ = some (.bool mt) := by
              have hB := H8.out.2.2.2.next hBr
              have hjj : j = 0 ∨ j = 1 := by omega
              rcases hjj with rfl | rfl
              · exact ⟨false, hB.cell 0 rfl⟩
              · exact ⟨true, hB.cell 1 rfl⟩
            have csl : s < wr.heap.size := (H8.out.2.2.2.next hBr).2
            obtain ⟨f1, f2, f3⟩ := join_good (mt := mt) HOK.out HO.out.1 HO.out.2
            obtain ⟨_, bz, _, _⟩ := gc_vf HOK.out
            obtain ⟨_, bv, _, _⟩ := gc_vf HO.out.1
            obtain ⟨gj, hgj⟩ : ∃ gj, gj = gcB K P M i (joinV mt Z V) 6 := ⟨_, rfl⟩
            have HGJ : Hid (gb = true → gj = true) := fun h => by rw [hgj]; exact f3 (by rw [← HG.out.1]; exact h)
            have HJ1 : Hid (∀ W : World, Sl W (some ⟨b, 0, none⟩) 6 1 (intF Z) → Sl W (some ⟨g5, 0, none⟩) 6 1 (intF V) → Calls Try.prog 31 #[.slice (some ⟨b, 0, none⟩) 6 6, .slice (some ⟨g5, 0, none⟩) 6 6, .bool mt] W fun r w' => (∃ a cap, r = .returned (.tuple #[.slice a 6 cap, .bool true]) ∧ Sl w' a 6 1 (intF (joinV mt Z V))) ∧ Below W.heap.size W w') := fun W h h' => by
              have := join_any (some ⟨b, 0, none⟩) 6 6 Z (some ⟨g5, 0, none⟩) 6 6 V mt W (by omega) (by omega) h h'
              unfold JoinPost at this
              rw [show jN Z 6 V 6 = 6 by rw [jN, f1]; rfl, f1] at this
              exact this.mono fun r w' ⟨⟨a, c, h1, h2⟩, h3⟩ => ⟨⟨a, c, h1, h2.sl⟩, h3⟩
            have HJ2 : Hid (∀ W : World, Sl W (some ⟨b, 0, none⟩) 6 1 (intF Z) → Sl W (some ⟨g5, 0, none⟩) 6 1 (intF V) → Calls Try.prog 32 #[.slice (some ⟨b, 0, none⟩) 6 6, .slice (some ⟨g5, 0, none⟩) 6 6, .bool mt] W fun r w' => (∃ a cap, r = .returned (.tuple #[.slice a 6 cap, .bool true]) ∧ Sl w' a 6 1 (intF (joinV mt Z V))) ∧ Below W.heap.size W w') := fun W h h' => by
              have := specJoin_any (some ⟨b, 0, none⟩) 6 6 Z (some ⟨g5, 0, none⟩) 6 6 V mt W (by omega) (by omega) h h' bz bv
              unfold JoinPost at this
              rw [show jN Z 6 V 6 = 6 by rw [jN, f1]; rfl, f1] at this
              exact this.mono fun r w' ⟨⟨a, c, h1, h2⟩, h3⟩ => ⟨⟨a, c, h1, h2.sl⟩, h3⟩
            have HJ3 : Hid (∀ (W : World) (a9 : Option Addr) (c9 : Nat), Sl W a4 i 3 (evF K P M) → Sl W a9 6 1 (intF (joinV mt Z V)) → Calls Try.prog 28 #[.slice a4 i cap4, .slice a9 6 c9] W fun r w' => r = .returned (.tuple #[.bool gj, .bool true]) ∧ Below W.heap.size W w') := fun W a9 c9 h h' => by
              have := goodCut_any a4 i cap4 K P M a9 6 c9 (joinV mt Z V) W (by omega) (by omega) HH.out.2.1 h h'
              unfold GcPost at this
              rw [f2, ← hgj] at this; exact this
            have HB : Hid (Below w8.heap.size w8 wr) := hBr
            clear f1 f2 f3 bz bv hgj hBr
            obtain ⟨J, hJ⟩ : ∃ J, J = joinV mt Z V := ⟨_, rfl⟩
            rw [← hJ] at HJ1 HJ2 HJ3
            clear hJ
            have HA : Hid (Sl wr a4 i 3 (evF K P M) ∧ Sl wr (some ⟨b, 0, none⟩) 6 1 (intF Z) ∧ Sl wr (some ⟨g5, 0, none⟩) 6 1 (intF V)) := ⟨HH.out.1.kept (below_next H8.out.2.1 HB.out), HH.out.2.2.1.kept (below_next H8.out.2.1 HB.out), H8.out.1.kept HB.out⟩
            go_wp2_with fail
            refine (HJ1.out _ HA.out.2.1 HA.out.2.2).mono ?_
            rintro _ w9 ⟨⟨a9, c9, rfl, s9⟩, hb⟩
            have H9 : Hid (Sl w9 a4 i 3 (evF K P M) ∧ Sl w9 (some ⟨b, 0, none⟩) 6 1 (intF Z) ∧ Sl w9 (some ⟨g5, 0, none⟩) 6 1 (intF V) ∧ Sl w9 a9 6 1 (intF J) ∧ Below w8.heap.size w8 w9) := ⟨HA.out.1.kept hb, HA.out.2.1.kept hb, HA.out.2.2.kept hb, s9, below_next HB.out hb⟩
            clear hb s9 HA HB HJ1 cm csl
            go_wp2_with fail
            refine (HJ2.out _ H9.out.2.1 H9.out.2.2.1).mono ?_
            rintro _ w10 ⟨⟨a10, c10, rfl, s10⟩, hb⟩
            have H10 : Hid (Sl w10 a4 i 3 (evF K P M) ∧ Sl w10 a9 6 1 (intF J) ∧ Sl w10 a10 6 1 (intF J) ∧ Below w8.heap.size w8 w10) := ⟨H9.out.1.kept hb, H9.out.2.2.2.1.kept hb, s10, below_next H9.out.2.2.2.2 hb⟩
            clear hb s10 H9 HJ2
            go_wp2_with fail
            refine (HJ3.out _ _ _ H10.out.1 H10.out.2.1).mono ?_
            rintro _ w11 ⟨rfl, hb⟩
            have H11 : Hid (Sl w11 a9 6 1 (intF J) ∧ Sl w11 a10 6 1 (intF J) ∧ Below w8.heap.size w8 w11) := ⟨H10.out.2.1.kept hb, H10.out.2.2.1.kept hb, below_next H10.out.2.2.2 hb⟩
            clear hb H10 HJ3
            go_wp2_with fail
            refine (sameInts_same _ _ _ _ _ J _ (by omega) H11.out.1 H11.out.2.1).mono ?_
            rintro _ w12 ⟨rfl, hb⟩
            have H12 : Hid (Below w8.heap.size w8 w12) := below_next H11.out.2.2 hb
            clear hb H11
            cases gb
            · clear HGJ
              go_wp2
              go_roundw
              case rel => exact ⟨j + 1, by omega, by go_num, H12.out⟩
              case measure => simp [intOf]; omega
            · have hgj := HGJ.out rfl
              subst hgj
              clear HGJ
              go_wp2
              go_roundw
              case rel => exact ⟨j + 1, by omega, by go_num, H12.out⟩
              case measure => simp [intOf]; omega
          · have hj2' : ¬ (j : Int) < 2 := by omega
            have HF : Hid (Below w.heap.size w wr) := below_next H8.out.2.2.1 hBr
            clear hBr H8
            go_wp2
            go_ret
            exact ⟨rfl, HF.out⟩
  · have hk0' : ¬ (0 : Int) < (k : Int) := by omega
    obtain ⟨w4, hw4⟩ : ∃ x, x = w3 := ⟨w3, rfl⟩
    subst hw4
    have H4 : Hid (Below w1.heap.size w1 w4 ∧ Below w.heap.size w w4) := H3.out
    clear H3 HS
    go_wp2_with (first
      | (at_make; refine wpList_make_full _ rfl (.const (.int .i64 6)) (.const (.int .i64 6)) 25 rfl w4.heap.size 3 i0 (.int .i64 0) 1 Try.underlying25 hi0 hz0 (by assumption) .i64 .i64 _ _ 6 rfl rfl rfl rfl (by rw [hz2]; omega) (by unfold maxLen; omega) (Nat.le_refl _) ?_; intro w5 hown hgrow)
      | fail)
    have HT : Hid (Vec w5 w4.heap.size (bN (vc K P M (0 + 1)) P 0) ∧ Below w4.heap.size w4 w5) := ⟨(vec_made (by simpa using hown)).congr (fun p _ => bN_zero.symm), (Below.refl _ _).grown hgrow (Nat.le_refl _) (fun k hk => by cases hk)⟩
    clear hown hgrow
    obtain ⟨g5, hg5'⟩ : ∃ g5, g5 = w4.heap.size := ⟨_, rfl⟩
    have hg5 : w4.heap.size ≤ g5 := by omega
    rw [show Vec w5 w4.heap.size (bN (vc K P M (0 + 1)) P 0) = Vec w5 g5 (bN (vc K P M (0 + 1)) P 0) by rw [hg5']] at HT
    rw [← hg5']
    clear hg5'
    go_wp2
    go_loopw [73] (fun x wr => ∃ i : Nat, i ≤ k ∧ x = .int .i64 i ∧ Vec wr g5 (bN (vc K P M (0 + 1)) P i) ∧ Below w4.heap.size w4 wr) (fun x _ => k - (intOf x).toNat)
    case atStart => exact ⟨0, Nat.zero_le _, rfl, HT.out⟩
    case round =>
      obtain ⟨i, hi, rfl, hT⟩ := hrel
      clear HT
      by_cases hik : i < k
      · omega
      · have hik' : ¬ (i : Int) < (k : Int) := by omega
        have hik2 : i = k := by omega
        subst hik2
        have HO : Hid (gcOk K P M i (bN (vc K P M (0 + 1)) P i) 6 = true ∧ cutAll K P M (bN (vc K P M (0 + 1)) P i) i = true) := other_good HGE.out
        obtain ⟨V, hV⟩ : ∃ V, V = bN (vc K P M (0 + 1)) P i := ⟨_, rfl⟩
        rw [← hV] at HO hT
        clear hV
        have HT : Hid (Sl wr (some ⟨g5, 0, none⟩) 6 1 (intF V) ∧ Below w1.heap.size w1 wr ∧ Below w.heap.size w wr) := ⟨vec_sl hT.1, below_next H4.out.1 hT.2, below_next H4.out.2 hT.2⟩
        clear hT H4
        have HC : Hid (∀ W : World, Sl W a4 i 3 (evF K P M) → Sl W (some ⟨g5, 0, none⟩) 6 1 (intF V) → Calls Try.prog 28 #[.slice a4 i cap4, .slice (some ⟨g5, 0, none⟩) 6 6] W fun r w' => r = .returned (.tuple #[.bool true, .bool true]) ∧ Below W.heap.size W w') := fun W h h' => by
          have := goodCut_any a4 i cap4 K P M (some ⟨g5, 0, none⟩) 6 6 V W (by omega) (by omega) HH.out.2.1 h h'
          unfold GcPost at this
          rw [show gcB K P M i V 6 = true by rw [gcB, HO.out.1, HO.out.2]; rfl, HO.out.1] at this; exact this
        go_wp2_with fail
        refine (HC.out _ (HH.out.1.kept HT.out.2.1) HT.out.1).mono ?_
        rintro _ w7 ⟨rfl, hb⟩
        have H7 : Hid (Sl w7 (some ⟨g5, 0, none⟩) 6 1 (intF V) ∧ Below w1.heap.size w1 w7 ∧ Below w.heap.size w w7) := ⟨HT.out.1.kept hb, below_next HT.out.2.1 hb, below_next HT.out.2.2 hb⟩
        clear hb HT HC
        obtain ⟨s, hs⟩ : ∃ s, s = w7.heap.size := ⟨_, rfl⟩
        obtain ⟨w8, hw8⟩ : ∃ w8, w8 = w7.alloc (.cells #[.bool false, .bool true] 4) := ⟨_, rfl⟩
        have H8 : Hid (Sl w8 (some ⟨g5, 0, none⟩) 6 1 (intF V) ∧ Below w1.heap.size w1 w8 ∧ Below w.heap.size w w8 ∧ Bx w8 s [.bool false, .bool true]) := by
          rw [hw8, hs]
          exact ⟨H7.out.1.kept (Go.Joins.below_alloc1 _ _), below_next H7.out.2.1 (Go.Joins.below_alloc1 _ _), below_next H7.out.2.2 (Go.Joins.below_alloc1 _ _), Bx.new w7 [.bool false, .bool true] _⟩
        clear H7
        go_wp2
        rw [← hs, ← hw8]
        clear hs hw8
        go_loopw [113] (fun x wr => ∃ j : Nat, j ≤ 2 ∧ x = .int .i64 j ∧ Below w8.heap.size w8 wr) (fun x _ => 2 - (intOf x).toNat)
        case atStart => exact ⟨0, Nat.zero_le _, rfl, Below.refl _ _⟩
        case round =>
          obtain ⟨j, hj, rfl, hBr⟩ := hrel
          by_cases hj2 : j < 2
          · have hj2' : (j : Int) < 2 := by omega
            obtain ⟨mt, cm⟩ : ∃ mt : Bool, wr.cell? ⟨s, j, none⟩ = some (.bool mt) := by
              have hB := H8.out.2.2.2.next hBr
              have hjj : j = 0 ∨ j = 1 := by omega
              rcases hjj with rfl | rfl
              · exact ⟨false, hB.cell 0 rfl⟩
              · exact ⟨true, hB.cell 1 rfl⟩
            have csl : s < wr.heap.size := (H8.out.2.2.2.next hBr).2
            obtain ⟨f1, f2, f3⟩ := join_good (mt := mt) HOK.out HO.out.1 HO.out.2
            obtain ⟨_, bz, _, _⟩ := gc_vf HOK.out
            obtain ⟨_, bv, _, _⟩ := gc_vf HO.out.1
            obtain ⟨gj, hgj⟩ : ∃ gj, gj = gcB K P M i (joinV mt Z V) 6 := ⟨_, rfl⟩
            have HGJ : Hid (gb = true → gj = true) := fun h => by rw [hgj]; exact f3 (by rw [← HG.out.1]; exact h)
            have HJ1 : Hid (∀ W : World, Sl W (some ⟨b, 0, none⟩) 6 1 (intF Z) → Sl W (some ⟨g5, 0, none⟩) 6 1 (intF V) → Calls Try.prog 31 #[.slice (some ⟨b, 0, none⟩) 6 6, .slice (some ⟨g5, 0, none⟩) 6 6, .bool mt] W fun r w' => (∃ a cap, r = .returned (.tuple #[.slice a 6 cap, .bool true]) ∧ Sl w' a 6 1 (intF (joinV mt Z V))) ∧ Below W.heap.size W w') := fun W h h' => by
              have := join_any (some ⟨b, 0, none⟩) 6 6 Z (some ⟨g5, 0, none⟩) 6 6 V mt W (by omega) (by omega) h h'
              unfold JoinPost at this
              rw [show jN Z 6 V 6 = 6 by rw [jN, f1]; rfl, f1] at this
              exact this.mono fun r w' ⟨⟨a, c, h1, h2⟩, h3⟩ => ⟨⟨a, c, h1, h2.sl⟩, h3⟩
            have HJ2 : Hid (∀ W : World, Sl W (some ⟨b, 0, none⟩) 6 1 (intF Z) → Sl W (some ⟨g5, 0, none⟩) 6 1 (intF V) → Calls Try.prog 32 #[.slice (some ⟨b, 0, none⟩) 6 6, .slice (some ⟨g5, 0, none⟩) 6 6, .bool mt] W fun r w' => (∃ a cap, r = .returned (.tuple #[.slice a 6 cap, .bool true]) ∧ Sl w' a 6 1 (intF (joinV mt Z V))) ∧ Below W.heap.size W w') := fun W h h' => by
              have := specJoin_any (some ⟨b, 0, none⟩) 6 6 Z (some ⟨g5, 0, none⟩) 6 6 V mt W (by omega) (by omega) h h' bz bv
              unfold JoinPost at this
              rw [show jN Z 6 V 6 = 6 by rw [jN, f1]; rfl, f1] at this
              exact this.mono fun r w' ⟨⟨a, c, h1, h2⟩, h3⟩ => ⟨⟨a, c, h1, h2.sl⟩, h3⟩
            have HJ3 : Hid (∀ (W : World) (a9 : Option Addr) (c9 : Nat), Sl W a4 i 3 (evF K P M) → Sl W a9 6 1 (intF (joinV mt Z V)) → Calls Try.prog 28 #[.slice a4 i cap4, .slice a9 6 c9] W fun r w' => r = .returned (.tuple #[.bool gj, .bool true]) ∧ Below W.heap.size W w') := fun W a9 c9 h h' => by
              have := goodCut_any a4 i cap4 K P M a9 6 c9 (joinV mt Z V) W (by omega) (by omega) HH.out.2.1 h h'
              unfold GcPost at this
              rw [f2, ← hgj] at this; exact this
            have HB : Hid (Below w8.heap.size w8 wr) := hBr
            clear f1 f2 f3 bz bv hgj hBr
            obtain ⟨J, hJ⟩ : ∃ J, J = joinV mt Z V := ⟨_, rfl⟩
            rw [← hJ] at HJ1 HJ2 HJ3
            clear hJ
            have HA : Hid (Sl wr a4 i 3 (evF K P M) ∧ Sl wr (some ⟨b, 0, none⟩) 6 1 (intF Z) ∧ Sl wr (some ⟨g5, 0, none⟩) 6 1 (intF V)) := ⟨HH.out.1.kept (below_next H8.out.2.1 HB.out), HH.out.2.2.1.kept (below_next H8.out.2.1 HB.out), H8.out.1.kept HB.out⟩
            go_wp2_with fail
            refine (HJ1.out _ HA.out.2.1 HA.out.2.2).mono ?_
            rintro _ w9 ⟨⟨a9, c9, rfl, s9⟩, hb⟩
            have H9 : Hid (Sl w9 a4 i 3 (evF K P M) ∧ Sl w9 (some ⟨b, 0, none⟩) 6 1 (intF Z) ∧ Sl w9 (some ⟨g5, 0, none⟩) 6 1 (intF V) ∧ Sl w9 a9 6 1 (intF J) ∧ Below w8.heap.size w8 w9) := ⟨HA.out.1.kept hb, HA.out.2.1.kept hb, HA.out.2.2.kept hb, s9, below_next HB.out hb⟩
            clear hb s9 HA HB HJ1 cm csl
            go_wp2_with fail
            refine (HJ2.out _ H9.out.2.1 H9.out.2.2.1).mono ?_
            rintro _ w10 ⟨⟨a10, c10, rfl, s10⟩, hb⟩
            have H10 : Hid (Sl w10 a4 i 3 (evF K P M) ∧ Sl w10 a9 6 1 (intF J) ∧ Sl w10 a10 6 1 (intF J) ∧ Below w8.heap.size w8 w10) := ⟨H9.out.1.kept hb, H9.out.2.2.2.1.kept hb, s10, below_next H9.out.2.2.2.2 hb⟩
            clear hb s10 H9 HJ2
            go_wp2_with fail
            refine (HJ3.out _ _ _ H10.out.1 H10.out.2.1).mono ?_
            rintro _ w11 ⟨rfl, hb⟩
            have H11 : Hid (Sl w11 a9 6 1 (intF J) ∧ Sl w11 a10 6 1 (intF J) ∧ Below w8.heap.size w8 w11) := ⟨H10.out.2.1.kept hb, H10.out.2.2.1.kept hb, below_next H10.out.2.2.2 hb⟩
            clear hb H10 HJ3
            go_wp2_with fail
            refine (sameInts_same _ _ _ _ _ J _ (by omega) H11.out.1 H11.out.2.1).mono ?_
            rintro _ w12 ⟨rfl, hb⟩
            have H12 : Hid (Below w8.heap.size w8 w12) := below_next H11.out.2.2 hb
            clear hb H11
            cases gb
            · clear HGJ
              go_wp2
              go_roundw
              case rel => exact ⟨j + 1, by omega, by go_num, H12.out⟩
              case measure => simp [intOf]; omega
            · have hgj := HGJ.out rfl
              subst hgj
              clear HGJ
              go_wp2
              go_roundw
              case rel => exact ⟨j + 1, by omega, by go_num, H12.out⟩
              case measure => simp [intOf]; omega
          · have hj2' : ¬ (j : Int) < 2 := by omega
            have HF : Hid (Below w.heap.size w wr) := below_next H8.out.2.2.1 hBr
            clear hBr H8
            go_wp2
            go_ret
            exact ⟨rfl, HF.out⟩


theorem own : ownKnob Try.prog.godebug = none := by kernel_rfl
theorem laidOut : laidOutB Try.prog = true := by kernel_rfl

set_option maxRecDepth 100000 in
theorem lifted (os : Os) (started : os.Started) (H : Type) (enc : TypeId × Value → H) :
    ReturnsInHanded {} Try.checked os 5 .any (Rows.fnCutsSpec.pre6 enc Try.prog Try.f5 Rows.fnCutsRow.domain false) (Rows.fnCutsSpec.post enc Try.prog Try.f5 false true false false) := by
  refine returnsInHanded_of_change (C := Try.checked) own started (by kernel_rfl) Try.func5
    (ChangeSpec.witness6 (enc := enc) (C := Try.checked) false ⟨#[], #[.slice none 0 0, .slice none 0 0], []⟩ 8 (by kernel_rfl) (by kernel_rfl) (by kernel_rfl) (by kernel_rfl)) ?_
  intro W base args ds gs before hval0 hW hcnd _
  have hval : ∀ (j : Nat) t v, Try.f5.params[j]? = some t → args[j]? = some v → Value.okWide Try.prog W .any base t v := hval0
  have hW' := hW
  obtain ⟨p, q, hA0, hV, rfl, hfz, hnd⟩ := hW
  have hA : DataW.TrodAll enc Try.prog W 0 (fun _ => true) true Try.f5.params.toList args.toList ds p := hA0
  rw [Try.params5] at hA hval
  obtain ⟨v0, vs0, d0, ds0, p0, q0, hargs, rfl, rfl, h0, r0⟩ := trodAll_cons hA
  obtain ⟨v1, vs1, d1, ds1, p1, q1, rfl, rfl, rfl, h1, r1⟩ := trodAll_cons r0
  obtain ⟨rfl, rfl, rfl⟩ := trodAll_nil r1
  obtain rfl : args = #[v0, v1] := by cases args; simp_all
  obtain ⟨rfl, rfl⟩ := trodVars_none hV
  have k0 := h0
  have lt0 : ∀ x ∈ p0, x.block < W.heap.size := by obtain ⟨m, hm⟩ := k0; exact DataW.trod_lt m _ _ _ hm
  obtain ⟨a0, len0, cap0, rfl⟩ := okWide_slice Try.underlying22 (hval 0 22 v0 rfl rfl)
  obtain ⟨n0, X0, s0, b0⟩ := open_bytes h0
  have k1 := h1
  have lt1 : ∀ x ∈ p1, x.block < W.heap.size := by obtain ⟨m, hm⟩ := k1; exact DataW.trod_lt m _ _ _ hm
  obtain ⟨a1, len1, cap1, rfl⟩ := okWide_slice Try.underlying22 (hval 1 22 v1 rfl rfl)
  obtain ⟨n1, X1, s1, b1⟩ := open_bytes h1
  clear hA0 hval0
  refine (walk (w := W) a0 len0 cap0 X0 n0 s0 b0 a1 len1 cap1 X1 n1 s1 b1).mono fun e W' ⟨he, bel⟩ => ?_
  subst he
  exact ⟨_, rfl, _, _, _, [], _, [], hW', trodAll_mk1 (shut_bool Try.underlying4 _), (trodAll_cons_mk (Below.trod laidOut (by kernel_rfl) (of_decide_eq_true (by kernel_rfl)) k0 bel lt0) (trodAll_cons_mk (Below.trod laidOut (by kernel_rfl) (of_decide_eq_true (by kernel_rfl)) k1 bel lt1) trodAll_mk0)), rfl, bel.frame _, fun h => by cases h⟩

set_option maxHeartbeats 40000000 in
theorem closed : joinedFacts Try.pinned.checked.prog 5 Try.f5 Rows.fnCutsSpec Rows.fnCutsRow = true := by
  unfold joinedFacts
  repeat' (first | (with_reducible refine both ?_ ?_) | (with_reducible exact may_enter') | (with_reducible refine lifts_eq ?_) | (with_reducible refine make_eq ?_) | as_aux_lemma => kernel_rfl)
theorem named : Try.pinned.checked.prog.funcNamed Rows.fnCutsRow.func = some 5 := by kernel_rfl
theorem over : Rows.fnCutsRow.holds Try.pinned (OpenSpec.ofChange Rows.fnCutsSpec) :=
  OpenClaim.holds_of_wide 5 Try.f5 rfl rfl rfl rfl rfl rfl rfl ⟨rfl, rfl, rfl, rfl, rfl⟩ rfl rfl rfl rfl rfl named Try.func5 closed
    (of_decide_eq_true (by as_aux_lemma => kernel_rfl)) (by unfold Func.isWrapper; first | (rw [if_pos (by decide +kernel)]; kernel_rfl) | (rw [if_neg (by decide +kernel)]; exact ⟨rfl, rfl⟩))
    (fun os started H enc _ => lifted os started H enc)

end Go.Proofs.Ytjophhiccbkpjaa.fCuts
namespace Go.Proofs.Ytjophhiccbkpjaa
theorem fCuts_holds : Rows.FnCutsSaid := fCuts.over
#print axioms fCuts_holds
end Go.Proofs.Ytjophhiccbkpjaa
