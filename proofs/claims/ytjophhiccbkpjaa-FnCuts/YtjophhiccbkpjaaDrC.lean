/- The draw of clocks: the cursor's clock; DrawCompareClock, DrawMergeClock; DrawVectorOf. -/
import Derived.Test.YtjophhiccbkpjaaDrEv
import Derived.Test.YtjophhiccbkpjaaDrA
import Derived.Test.YtjophhiccbkpjaaVcP
import Derived.Deep.QuietTactic
import Derived.BigQuiet
namespace Go.Proofs.Ytjophhiccbkpjaa
open Go.RowKit
set_option linter.unusedVariables false

set_option maxRecDepth 100000 in
set_option maxHeartbeats 1000000 in
theorem drawVector_any (a : Option Addr) (n cap : Nat) (X : Nat → Int) (w : World) (hn : n ≤ 9223372036854775807) (hs : Sl w a n 1 (byF X)) (hX : ∀ i, i < n → 0 ≤ X i ∧ X i ≤ 255) :
    Calls Try.prog 20 #[.slice a n cap] w (EvsPost w) := by
  have HS : Hid (Sl w a n 1 (byF X) ∧ ∀ i, i < n → 0 ≤ X i ∧ X i ≤ 255) := ⟨hs, hX⟩
  clear hs hX
  go_enter Try.func20, Try.ntmps20
  go_wp2_with fail
  refine (drawGoodEvents_any _ _ _ X _ hn HS.out.1 HS.out.2).mono ?_
  rintro r w1 ⟨a4, k, cap4, K, P, M, h1, h2, rfl, h3⟩
  have HF : Hid (EvsPost w (.returned (.slice a4 k cap4)) w1) := ⟨a4, k, cap4, K, P, M, h1, h2, rfl, h3⟩
  clear h1 h2 h3
  go_wp2
  go_ret
  exact HF.out

theorem Vec.trn {w w' : World} {B C g : Nat} {x : Nat → Int} (h : Vec w g x) (ht : Trn B C w w') (ha : g < B ∨ C ≤ g) : Vec w' g x :=
  ⟨fun i hi => ⟨(World.cell?_of_block (a := ⟨g, i, none⟩) (ht.2.2.2.2 g h.2 ha)).trans (h.1 i hi).1, (World.frozen?_of_block (a := ⟨g, i, none⟩) (ht.2.2.2.2 g h.2 ha)).trans (h.1 i hi).2⟩, Nat.lt_of_lt_of_le h.2 ht.2.2.2.1⟩
/-- Block b holds six numbers, block r the answer, and the cursor stands. -/
def CkH (W w : World) (g : Nat) (a : Option Addr) (n cap : Nat) (X : Nat → Int) (t b r : Nat) : Prop := (∃ Z, Vec W b Z) ∧ Bx W r [.slice none 0 0] ∧ Drew g a n cap X t w W
section
variable {W W' w : World} {g : Nat} {a : Option Addr} {n cap : Nat} {X : Nat → Int} {t t' b r : Nat}
theorem CkH.draw (h : CkH W w g a n cap X t b r) (hd : Drew g a n cap X t' W W') (hb : g < b) (hr : g < r) : CkH W' w g a n cap X t' b r := by
  obtain ⟨⟨Z, h1⟩, h2, h3⟩ := h
  exact ⟨⟨Z, h1.trn hd.2 (Or.inr hb)⟩, h2.trn hd.2 (Or.inr hr), h3.trans hd⟩
theorem CkH.next (h : CkH W w g a n cap X t b r) (hb : Below W.heap.size W W') : CkH W' w g a n cap X t b r := by
  obtain ⟨⟨Z, h1⟩, h2, h3⟩ := h
  exact ⟨⟨Z, h1.below hb h1.2⟩, h2.next hb, h3.1.next hb, h3.2.next hb⟩
theorem CkH.put {q : Nat} (h : CkH W w g a n cap X t b r) (hq : q < 6) (hbr : b ≠ r) (hg : g < w.heap.size) (hb : w.heap.size ≤ b) (v : Int) : CkH (W.setCell ⟨b, q, none⟩ (.int .i64 v)) w g a n cap X t b r := by
  obtain ⟨⟨Z, h1⟩, h2, h3⟩ := h
  exact ⟨⟨_, h1.set hq v⟩, h2.other (fun e => hbr e.symm), h3.out hg hb _⟩
theorem CkH.up (h : CkH W w g a n cap X t b r) (ht : t ≤ t') : CkH W w g a n cap X t' b r := ⟨h.1, h.2.1, h.2.2.up ht⟩
theorem CkH.at {q : Nat} (h : CkH W w g a n cap X t b r) (hq : q < 6) : (∃ x, W.cell? ⟨b, q, none⟩ = some x) ∧ W.frozen? ⟨b, q, none⟩ = false ∧ b < W.heap.size := by
  obtain ⟨⟨Z, h1⟩, h2, h3⟩ := h
  exact ⟨⟨_, (h1.1 q hq).1⟩, (h1.1 q hq).2, h1.2⟩
end
def ClkDrew (g : Nat) (a : Option Addr) (n cap : Nat) (X : Nat → Int) (t : Nat) (w : World) (r : Ending) (w' : World) : Prop :=
  ∃ (b o : Nat), o ≤ 1 ∧ r = .returned (.agg #[.slice (some ⟨b, o, none⟩) (6 - o) (6 - o)]) ∧ w.heap.size ≤ b ∧ (∃ Z, Vec w' b Z) ∧ Drew g a n cap X (t + 20) w w'

set_option maxRecDepth 100000 in
set_option maxHeartbeats 4000000 in
theorem clock_any (g : Nat) (a : Option Addr) (n cap : Nat) (X : Nat → Int) (t : Nat) (w : World) (ht : t ≤ 10000) (hc : Cur w g a n cap X t) :
    Calls Try.prog 75 #[.pointer (some ⟨g, 0, none⟩)] w (ClkDrew g a n cap X t w) := by
  have hgw : g < w.heap.size := hc.2.2.2.2.2.1
  have HC : Hid (Cur w g a n cap X t) := hc
  clear hc
  obtain ⟨i0, hi0, hz0, hz1, hz2⟩ := info_parts info_int
  go_enter Try.func75, Try.ntmps75
  go_wp2_with (first
    | (at_make; refine wpList_make_full _ rfl (.const (.int .i64 6)) (.const (.int .i64 6)) 25 rfl (w.heap.size + 1) 3 i0 (.int .i64 0) 1 Try.underlying25 hi0 hz0 (by assumption) .i64 .i64 _ _ 6 rfl rfl rfl rfl (by rw [hz2]; omega) (by unfold maxLen; omega) (by simp) ?_; intro w2 hown hgrow)
    | fail)
  have hB2 : Below (w.heap.size + 1) (w.alloc (.cells #[.slice none 0 0] 36)) w2 := (Below.refl _ _).grown hgrow (by simp) (fun k hk => by cases hk)
  have HT : Hid (CkH w2 w g a n cap X t (w.heap.size + 1) w.heap.size) := by
    have e : (w.alloc (.cells #[.slice none 0 0] 36)).heap.size = w.heap.size + 1 := by simp
    rw [← e] at hB2
    refine ⟨⟨_, vec_made (by simpa using hown)⟩, (Bx.new w [.slice none 0 0] 36).next hB2, (HC.out.next (Go.Joins.below_alloc1 _ _)).next hB2, ((Trn.refl _ _ _).alloc _).next hB2⟩
  clear hown hgrow hB2 HC
  obtain ⟨b, hb⟩ : ∃ b, b = w.heap.size + 1 := ⟨_, rfl⟩
  obtain ⟨r, hr⟩ : ∃ r, r = w.heap.size := ⟨_, rfl⟩
  have hwr : w.heap.size = r := hr.symm
  rw [← hb, ← hr] at HT
  rw [← hb, ← hr]
  have hgr : g < r := by omega
  have hgb : g < b := by omega
  have hbr : b ≠ r := by omega
  have hwb : w.heap.size ≤ b := by omega
  have hwr' : w.heap.size ≤ r := by omega
  clear hb hr
  have HP : Hid (∀ (W : World) (o : Nat) (t' : Nat), o ≤ 1 → t' ≤ t + 20 → CkH W w g a n cap X t' b r → ClkDrew g a n cap X t w (.returned (.agg #[.slice (some ⟨b, o, none⟩) (6 - o) (6 - o)])) (W.setCell ⟨r, 0, none⟩ (.slice (some ⟨b, o, none⟩) (6 - o) (6 - o)))) := by
    intro W o t' ho ht' h
    obtain ⟨⟨Z, h1⟩, h2, h3⟩ := h
    exact ⟨b, o, ho, rfl, hwb, ⟨Z, h1.setOther hbr⟩, (h3.up ht').out hgw hwr' _⟩
  go_wp2
  go_loopw [8] (fun x wr => ∃ i : Nat, i ≤ 6 ∧ x = .int .i64 i ∧ CkH wr w g a n cap X (t + 2 * i) b r) (fun x _ => 6 - (intOf x).toNat)
  case atStart => exact ⟨0, Nat.zero_le _, rfl, HT.out⟩
  case round =>
    obtain ⟨i, hi, rfl, hT⟩ := hrel
    clear HT
    obtain ⟨wi, hwi⟩ : ∃ x, x = wr := ⟨wr, rfl⟩
    subst hwi
    have HT : Hid (CkH wi w g a n cap X (t + 2 * i) b r) := hT
    clear hT
    by_cases hik : i < 6
    · have hik' : (i : Int) < 6 := by omega
      go_wp2_with fail
      refine (pick_any _ _ _ _ _ _ _ _ (by omega) (by omega) HT.out.2.2.1).mono ?_
      rintro _ w6 ⟨x6, hx6, rfl, hd⟩
      have H6 : Hid (CkH w6 w g a n cap X (t + 2 * (i + 1)) b r) := HT.out.draw hd hgb hgr
      clear hd HT
      obtain ⟨⟨z, rz⟩, fz, hbl⟩ := H6.out.at hik
      have H7 : Hid (CkH (w6.setCell ⟨b, i, none⟩ (.int .i64 x6)) w g a n cap X (t + 2 * (i + 1)) b r) := H6.out.put hik hbr hgw hwb _
      clear H6
      go_wp2
      go_roundw
      case rel => exact ⟨i + 1, by omega, by go_num, H7.out⟩
      case measure => simp [intOf]; omega
    · have hik' : ¬ (i : Int) < 6 := by omega
      have HT2 : Hid (CkH wi w g a n cap X (t + 12) b r) := HT.out.up (by omega)
      clear HT
      go_wp2_with fail
      refine (one_any _ _ _ _ _ _ _ _ (by omega) (by omega) HT2.out.2.2.1).mono ?_
      rintro _ w7 ⟨b7, rfl, hd⟩
      have H7 : Hid (CkH w7 w g a n cap X (t + 14) b r) := HT2.out.draw hd hgb hgr
      clear hd HT2
      cases b7
      · go_wp2_with fail
        refine (one_any _ _ _ _ _ _ _ _ (by omega) (by omega) H7.out.2.2.1).mono ?_
        rintro _ w8 ⟨b8, rfl, hd⟩
        have H8 : Hid (CkH w8 w g a n cap X (t + 16) b r) := H7.out.draw hd hgb hgr
        clear hd H7
        have y0 := H8.out.2.1.cell 0 rfl
        have yf := H8.out.2.1.frz 0 (by simp)
        have yl := H8.out.2.1.2
        cases b8
        · have HF : Hid (ClkDrew g a n cap X t w (.returned (.agg #[.slice (some ⟨b, 0, none⟩) 6 6])) (w8.setCell ⟨r, 0, none⟩ (.slice (some ⟨b, 0, none⟩) 6 6))) := HP.out _ 0 _ (by omega) (by omega) H8.out
          clear H8 HP
          go_wp2
          exact bodyPost_ret (v := .agg #[.slice (some ⟨b, 0, none⟩) 6 6]) (by simp [results, Try.results75, go_sem, *]) rfl HF.out
        · have HF : Hid (ClkDrew g a n cap X t w (.returned (.agg #[.slice (some ⟨b, 1, none⟩) 5 5])) (w8.setCell ⟨r, 0, none⟩ (.slice (some ⟨b, 1, none⟩) 5 5))) := HP.out _ 1 _ (by omega) (by omega) H8.out
          clear H8 HP
          go_wp2
          exact bodyPost_ret (v := .agg #[.slice (some ⟨b, 1, none⟩) 5 5]) (by simp [results, Try.results75, go_sem, *]) rfl HF.out
      · have hz7 : r < w7.heap.size := H7.out.2.1.2
        go_wp2_with fail
        refine (among_any g a n cap X (t + 14) w7.heap.size _ (-1) 1000000 1000001 _ (by omega) (H7.out.2.2.1.next (Go.Joins.below_alloc1 _ _)) (by omega) (by simp) (by simp) (by simp) (by simp)).mono ?_
        rintro _ w9 ⟨y, rfl, hd⟩
        have H9 : Hid (CkH w9 w g a n cap X (t + 16) b r) := (H7.out.next (Go.Joins.below_alloc1 _ _)).draw hd hgb hgr
        clear hd H7
        obtain ⟨⟨z, rz⟩, fz, hbl⟩ := H9.out.at (q := 0) (by omega)
        have H10 : Hid (CkH (w9.setCell ⟨b, 0, none⟩ (.int .i64 y)) w g a n cap X (t + 16) b r) := H9.out.put (by omega) hbr hgw hwb _
        clear H9
        go_wp2_with fail
        refine (one_any _ _ _ _ _ _ _ _ (by omega) (by omega) H10.out.2.2.1).mono ?_
        rintro _ w8 ⟨b8, rfl, hd⟩
        have H8 : Hid (CkH w8 w g a n cap X (t + 18) b r) := H10.out.draw hd hgb hgr
        clear hd H10 rz fz hbl
        have y0 := H8.out.2.1.cell 0 rfl
        have yf := H8.out.2.1.frz 0 (by simp)
        have yl := H8.out.2.1.2
        cases b8
        · have HF : Hid (ClkDrew g a n cap X t w (.returned (.agg #[.slice (some ⟨b, 0, none⟩) 6 6])) (w8.setCell ⟨r, 0, none⟩ (.slice (some ⟨b, 0, none⟩) 6 6))) := HP.out _ 0 _ (by omega) (by omega) H8.out
          clear H8 HP
          go_wp2
          exact bodyPost_ret (v := .agg #[.slice (some ⟨b, 0, none⟩) 6 6]) (by simp [results, Try.results75, go_sem, *]) rfl HF.out
        · have HF : Hid (ClkDrew g a n cap X t w (.returned (.agg #[.slice (some ⟨b, 1, none⟩) 5 5])) (w8.setCell ⟨r, 0, none⟩ (.slice (some ⟨b, 1, none⟩) 5 5))) := HP.out _ 1 _ (by omega) (by omega) H8.out
          clear H8 HP
          go_wp2
          exact bodyPost_ret (v := .agg #[.slice (some ⟨b, 1, none⟩) 5 5]) (by simp [results, Try.results75, go_sem, *]) rfl HF.out
end Go.Proofs.Ytjophhiccbkpjaa
