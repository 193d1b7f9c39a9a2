/- The draw of events and a cut: the cursor's cut; DrawGoodCut; the law's own numberOf. -/
import Derived.Test.YtjophhiccbkpjaaDrC
namespace Go.Proofs.Ytjophhiccbkpjaa
open Go.RowKit
set_option linter.unusedVariables false

set_option maxHeartbeats 400000 in
theorem among2_any (g : Nat) (a : Option Addr) (n cap : Nat) (X : Nat → Int) (t : Nat) (l lc : Nat) (y0 y1 : Int) (w : World) (ht : t ≤ 999990) (hc : Cur w g a n cap X t) (hl : l ≠ g) (hls : l < w.heap.size)
    (c0 : w.cell? ⟨l, 0, none⟩ = some (.int .i64 y0)) (c1 : w.cell? ⟨l, 1, none⟩ = some (.int .i64 y1)) :
    Calls Try.prog 78 #[.pointer (some ⟨g, 0, none⟩), .slice (some ⟨l, 0, none⟩) 2 lc] w fun r w' => ∃ x : Int, r = .returned (.int .i64 x) ∧ Drew g a n cap X (t + 2) w w' := by
  have HC : Hid (Cur w g a n cap X t) := hc
  clear hc
  go_enter Try.func78, Try.ntmps78
  go_wp2_with fail
  refine (pick_any _ _ _ _ _ _ _ _ ht (by omega) HC.out).mono ?_
  rintro r w1 ⟨x, hx, rfl, hd⟩
  have H1 : Hid (Drew g a n cap X (t + 2) w w1) := hd
  have hk := hd.2.2.2.2.2 l hls (by omega)
  have d0 := (World.cell?_of_block (a := ⟨l, 0, none⟩) hk).trans c0
  have d1 := (World.cell?_of_block (a := ⟨l, 1, none⟩) hk).trans c1
  clear hd HC hk c0 c1
  have h3 : x = 0 ∨ x = 1 := by omega
  rcases h3 with rfl | rfl
  all_goals
    go_wp2
    go_ret
    exact ⟨_, rfl, H1.out⟩

/-- Block b holds six numbers up to m, the events stand, the cursor stands. -/
def CtH (W w : World) (g : Nat) (a : Option Addr) (n cap : Nat) (X : Nat → Int) (t b m B C : Nat) (a4 : Option Addr) (k : Nat) (K P M : Nat → Int) : Prop :=
  (∃ Z, Vec W b Z ∧ ∀ p, p < 6 → 0 ≤ Z p ∧ Z p ≤ m) ∧ SRow W B C a4 k 3 (evF K P M) ∧ Drew g a n cap X t w W
section
variable {W W' w : World} {g : Nat} {a : Option Addr} {n cap : Nat} {X : Nat → Int} {t t' b m m' B C : Nat} {a4 : Option Addr} {k : Nat} {K P M : Nat → Int}
theorem CtH.draw (h : CtH W w g a n cap X t b m B C a4 k K P M) (hd : Drew g a n cap X t' W W') (hb : g < b) (hB : g < B) : CtH W' w g a n cap X t' b m B C a4 k K P M := by
  obtain ⟨⟨Z, h1, h0⟩, h2, h3⟩ := h
  exact ⟨⟨Z, h1.trn hd.2 (Or.inr hb), h0⟩, h2.trn hd.2 (Or.inr hB), h3.trans hd⟩
theorem CtH.next (h : CtH W w g a n cap X t b m B C a4 k K P M) (hb : Below W.heap.size W W') : CtH W' w g a n cap X t b m B C a4 k K P M := by
  obtain ⟨⟨Z, h1, h0⟩, h2, h3⟩ := h
  exact ⟨⟨Z, h1.below hb h1.2, h0⟩, h2.next hb, h3.1.next hb, h3.2.next hb⟩
theorem CtH.put {q : Nat} (h : CtH W w g a n cap X t b m B C a4 k K P M) (hq : q < 6) (hC : C ≤ b) (hg : g < w.heap.size) (hb : w.heap.size ≤ b) (hm : m ≤ m') {v : Int} (hv : 0 ≤ v ∧ v ≤ m') : CtH (W.setCell ⟨b, q, none⟩ (.int .i64 v)) w g a n cap X t b m' B C a4 k K P M := by
  obtain ⟨⟨Z, h1, h0⟩, h2, h3⟩ := h
  refine ⟨⟨_, h1.set hq v, fun p hp => ?_⟩, h2.trn ((Trn.refl b (b + 1) W).set (p := ⟨b, q, none⟩) (Nat.le_refl _) (by simp) _) (Or.inl hC), h3.out hg hb _⟩
  have := h0 p hp
  show 0 ≤ (if p = q then v else Z p) ∧ (if p = q then v else Z p) ≤ (m' : Int)
  split <;> omega
theorem CtH.up (h : CtH W w g a n cap X t b m B C a4 k K P M) (ht : t ≤ t') (hm : m ≤ m') : CtH W w g a n cap X t' b m' B C a4 k K P M := by
  obtain ⟨⟨Z, h1, h0⟩, h2, h3⟩ := h
  exact ⟨⟨Z, h1, fun p hp => by have := h0 p hp; omega⟩, h2, h3.up ht⟩
theorem CtH.at {q : Nat} (h : CtH W w g a n cap X t b m B C a4 k K P M) (hq : q < 6) : (∃ x : Int, (0 ≤ x ∧ x ≤ m) ∧ W.cell? ⟨b, q, none⟩ = some (.int .i64 x)) ∧ W.frozen? ⟨b, q, none⟩ = false ∧ b < W.heap.size := by
  obtain ⟨⟨Z, h1, h0⟩, h2, h3⟩ := h
  exact ⟨⟨_, h0 q hq, (h1.1 q hq).1⟩, (h1.1 q hq).2, h1.2⟩
end
def CutD (g : Nat) (a : Option Addr) (n cap : Nat) (X : Nat → Int) (t B C : Nat) (a4 : Option Addr) (k : Nat) (K P M : Nat → Int) (w : World) (r : Ending) (w' : World) : Prop :=
  ∃ b : Nat, r = .returned (.slice (some ⟨b, 0, none⟩) 6 6) ∧ w.heap.size ≤ b ∧ (∃ Z, Vec w' b Z) ∧ SRow w' B C a4 k 3 (evF K P M) ∧ Drew g a n cap X (t + 30) w w'

set_option maxRecDepth 100000 in
set_option maxHeartbeats 4000000 in
theorem cut_any (g : Nat) (a : Option Addr) (n cap : Nat) (X : Nat → Int) (t B C : Nat) (a4 : Option Addr) (k cap4 : Nat) (K P M : Nat → Int) (w : World) (ht : t ≤ 10000) (hk : k ≤ 62) (hB : g < B) (hCw : C ≤ w.heap.size) (hc : Cur w g a n cap X t) (hs : SRow w B C a4 k 3 (evF K P M)) :
    Calls Try.prog 66 #[.pointer (some ⟨g, 0, none⟩), .slice a4 k cap4] w (CutD g a n cap X t B C a4 k K P M w) := by
  have hgw : g < w.heap.size := hc.2.2.2.2.2.1
  have HC : Hid (Cur w g a n cap X t ∧ SRow w B C a4 k 3 (evF K P M)) := ⟨hc, hs⟩
  clear hc hs
  obtain ⟨i0, hi0, hz0, hz1, hz2⟩ := info_parts info_int
  go_enter Try.func66, Try.ntmps66
  go_wp2_with (first
    | (at_make; refine wpList_make_full _ rfl (.const (.int .i64 6)) (.const (.int .i64 6)) 25 rfl w.heap.size 3 i0 (.int .i64 0) 1 Try.underlying25 hi0 hz0 (by assumption) .i64 .i64 _ _ 6 rfl rfl rfl rfl (by rw [hz2]; omega) (by unfold maxLen; omega) (Nat.le_refl _) ?_; intro w2 hown hgrow)
    | fail)
  have hB2 : Below w.heap.size w w2 := (Below.refl _ _).grown hgrow (Nat.le_refl _) (fun k hk => by cases hk)
  have HT : Hid (CtH w2 w g a n cap X t w.heap.size 0 B C a4 k K P M) := ⟨⟨_, vec_made (by simpa using hown), fun p _ => by simp⟩, HC.out.2.next hB2, HC.out.1.next hB2, (Trn.refl _ _ _).next hB2⟩
  clear hown hgrow hB2 HC
  obtain ⟨b, hb⟩ : ∃ b, b = w.heap.size := ⟨_, rfl⟩
  have hwb : w.heap.size ≤ b := by omega
  have hgb : g < b := by omega
  have hCb : C ≤ b := by omega
  rw [← hb] at HT
  rw [← hb]
  clear hb
  have HP : Hid (∀ (W : World) (t' m : Nat), t' ≤ t + 30 → CtH W w g a n cap X t' b m B C a4 k K P M → CutD g a n cap X t B C a4 k K P M w (.returned (.slice (some ⟨b, 0, none⟩) 6 6)) W) := by
    intro W t' m ht' h
    obtain ⟨⟨Z, h1, _⟩, h2, h3⟩ := h
    exact ⟨b, rfl, hwb, ⟨Z, h1⟩, h2, h3.up ht'⟩
  go_wp2
  go_loopw [12] (fun x wr => ∃ i : Nat, i ≤ k ∧ x = .int .i64 i ∧ CtH wr w g a n cap X t b i B C a4 k K P M) (fun x _ => k - (intOf x).toNat)
  case atStart => exact ⟨0, Nat.zero_le _, rfl, HT.out⟩
  case round =>
    obtain ⟨i, hi, rfl, hT⟩ := hrel
    clear HT
    obtain ⟨wi, hwi⟩ : ∃ x, x = wr := ⟨wr, rfl⟩
    subst hwi
    by_cases hik : i < k
    · have hik' : (i : Int) < (k : Int) := by omega
      rcases hT.2.1.sl with h | ⟨be, off, rfl, hbs, hE⟩
      · omega
      obtain ⟨c0, c1, c2⟩ := ev_cells hE hik
      obtain ⟨pi, hpi⟩ : ∃ pi, pi = P i := ⟨_, rfl⟩
      rw [← hpi] at c1
      have HT : Hid (CtH (wi.alloc (.cells #[.int .i64 (K i), .int .i64 pi, .int .i64 (M i)] 49)) w g a n cap X t b i B C (some ⟨be, off, none⟩) k K P M) := hT.next (Go.Joins.below_alloc1 _ _)
      clear hT hE hpi
      cases hin : inR pi 0 5
      · go_wp2_with (go_at_call 57; refine (l1In_any _ _ _ _).mono ?_; rintro e w' ⟨rfl, rfl⟩)
        go_roundw
        case rel => exact ⟨i + 1, by omega, by go_num, HT.out.up (Nat.le_refl _) (by omega)⟩
        case measure => simp [intOf]; omega
      · obtain ⟨q, hq6, rfl⟩ : ∃ q : Nat, q < 6 ∧ pi = (q : Int) := by have := inR_iff.1 hin; exact ⟨pi.toNat, by omega, by omega⟩
        obtain ⟨⟨z, hz, rz⟩, fz, hbl⟩ := HT.out.at hq6
        have HN : Hid (CtH ((wi.alloc (.cells #[.int .i64 (K i), .int .i64 (q : Int), .int .i64 (M i)] 49)).setCell ⟨b, q, none⟩ (.int .i64 (z + 1))) w g a n cap X t b (i + 1) B C (some ⟨be, off, none⟩) k K P M) := HT.out.put hq6 hCb hgw hwb (by omega) (by omega)
        have hq6' : (q : Int) < 6 := by omega
        clear HT
        go_wp2_with (go_at_call 57; refine (l1In_any _ _ _ _).mono ?_; rintro e w' ⟨rfl, rfl⟩)
        go_roundw
        case rel => exact ⟨i + 1, by omega, by go_num, HN.out⟩
        case measure => simp [intOf]; omega
    · have hik' : ¬ (i : Int) < (k : Int) := by omega
      have HT : Hid (CtH wi w g a n cap X t b 62 B C a4 k K P M) := hT.up (Nat.le_refl _) (by omega)
      clear hT
      go_wp2
      go_loopw [29] (fun x wr => ∃ i : Nat, i ≤ 6 ∧ x = .int .i64 i ∧ CtH wr w g a n cap X (t + 2 * i) b 62 B C a4 k K P M) (fun x _ => 6 - (intOf x).toNat)
      case atStart => exact ⟨0, Nat.zero_le _, rfl, HT.out⟩
      case round =>
        obtain ⟨i, hi, rfl, hT⟩ := hrel
        clear HT
        obtain ⟨wi, hwi⟩ : ∃ x, x = wr := ⟨wr, rfl⟩
        subst hwi
        have HT : Hid (CtH wi w g a n cap X (t + 2 * i) b 62 B C a4 k K P M) := hT
        clear hT
        by_cases hik : i < 6
        · have hik' : (i : Int) < 6 := by omega
          obtain ⟨⟨z, hz, rz⟩, fz, hbl⟩ := HT.out.at hik
          go_wp2_with fail
          refine (pick_any _ _ _ _ _ _ _ _ (by omega) (by omega) HT.out.2.2.1).mono ?_
          rintro _ w6 ⟨x6, hx6, rfl, hd⟩
          have H6 : Hid (CtH w6 w g a n cap X (t + 2 * (i + 1)) b 62 B C a4 k K P M) := HT.out.draw hd hgb hB
          clear hd HT rz fz hbl
          obtain ⟨⟨z', hz', rz⟩, fz, hbl⟩ := H6.out.at hik
          have H7 : Hid (CtH (w6.setCell ⟨b, i, none⟩ (.int .i64 x6)) w g a n cap X (t + 2 * (i + 1)) b 62 B C a4 k K P M) := H6.out.put hik hCb hgw hwb (Nat.le_refl _) (by omega)
          clear H6
          go_wp2
          go_roundw
          case rel => exact ⟨i + 1, by omega, by go_num, H7.out⟩
          case measure => simp [intOf]; omega
        · have hik' : ¬ (i : Int) < 6 := by omega
          have HT2 : Hid (CtH wi w g a n cap X (t + 12) b 62 B C a4 k K P M) := HT.out.up (by omega) (Nat.le_refl _)
          clear HT
          go_wp2_with fail
          refine (one_any _ _ _ _ _ _ _ _ (by omega) (by omega) HT2.out.2.2.1).mono ?_
          rintro _ w7 ⟨b7, rfl, hd⟩
          have H7 : Hid (CtH w7 w g a n cap X (t + 14) b 62 B C a4 k K P M) := HT2.out.draw hd hgb hB
          clear hd HT2
          cases b7
          · have HF : Hid (CutD g a n cap X t B C a4 k K P M w (.returned (.slice (some ⟨b, 0, none⟩) 6 6)) w7) := HP.out _ _ _ (by omega) H7.out
            clear H7 HP
            go_wp2
            go_ret
            exact HF.out
          · go_wp2_with fail
            refine (pick_any _ _ _ _ _ _ _ _ (by omega) (by omega) H7.out.2.2.1).mono ?_
            rintro _ w8 ⟨x8, hx8, rfl, hd⟩
            have H8 : Hid (CtH w8 w g a n cap X (t + 16) b 62 B C a4 k K P M) := H7.out.draw hd hgb hB
            clear hd H7
            obtain ⟨y, hy, hyx⟩ : ∃ y : Nat, y < 6 ∧ x8 = (y : Int) := ⟨x8.toNat, by omega, by omega⟩
            subst hyx
            clear hx8
            have hy' : (y : Int) < 6 := by omega
            have hz8 : b < w8.heap.size := (H8.out.at (q := 0) (by omega)).2.2
            go_wp2_with fail
            refine (among2_any g a n cap X (t + 16) w8.heap.size _ (-1) 61 _ (by omega) (H8.out.2.2.1.next (Go.Joins.below_alloc1 _ _)) (by omega) (by simp) (by simp) (by simp)).mono ?_
            rintro _ w9 ⟨v, rfl, hd⟩
            have H9 : Hid (CtH w9 w g a n cap X (t + 18) b 62 B C a4 k K P M) := (H8.out.next (Go.Joins.below_alloc1 _ _)).draw hd hgb hB
            clear hd H8
            obtain ⟨⟨z', hz', rz⟩, fz, hbl⟩ := H9.out.at hy
            have HF : Hid (CutD g a n cap X t B C a4 k K P M w (.returned (.slice (some ⟨b, 0, none⟩) 6 6)) (w9.setCell ⟨b, y, none⟩ (.int .i64 v))) := by
              obtain ⟨⟨Z, h1, _⟩, h2, h3⟩ := H9.out
              exact ⟨b, rfl, hwb, ⟨_, h1.set hy v⟩, h2.trn ((Trn.refl b (b + 1) w9).set (p := ⟨b, y, none⟩) (Nat.le_refl _) (by simp) _) (Or.inl hCb), (h3.up (by omega)).out hgw hwb _⟩
            clear H9 HP
            go_wp2
            go_ret
            exact HF.out

def GcDrew (w : World) (r : Ending) (w' : World) : Prop := ∃ (a4 : Option Addr) (k cap4 : Nat) (K P M : Nat → Int) (b : Nat) (Z : Nat → Int),
  k ≤ 62 ∧ k ≤ cap4 ∧ r = .returned (.tuple #[.slice a4 k cap4, .slice (some ⟨b, 0, none⟩) 6 6]) ∧ Sl w' a4 k 3 (evF K P M) ∧ (∀ i, i < k → -9223372036854775808 ≤ M i ∧ M i ≤ 9223372036854775807) ∧ Vec w' b Z ∧ Below w.heap.size w w'
set_option maxRecDepth 100000 in
set_option maxHeartbeats 1000000 in
theorem drawGoodCut_any (a : Option Addr) (n cap : Nat) (X : Nat → Int) (w : World) (hn : n ≤ 9223372036854775807) (hs : Sl w a n 1 (byF X)) (hX : ∀ i, i < n → 0 ≤ X i ∧ X i ≤ 255) :
    Calls Try.prog 27 #[.slice a n cap] w (GcDrew w) := by
  have H0 : Hid (Cur (w.alloc (.cells #[.slice a n cap, .int .i64 0, .int .u64 0] 91)) w.heap.size a n cap X 0 ∧ Below w.heap.size w (w.alloc (.cells #[.slice a n cap, .int .i64 0, .int .u64 0] 91))) := ⟨Cur.new _ hs hn hX, Go.Joins.below_alloc1 _ _⟩
  clear hs hX
  obtain ⟨w0, hw0⟩ : ∃ w0, w0 = w.alloc (.cells #[.slice a n cap, .int .i64 0, .int .u64 0] 91) := ⟨_, rfl⟩
  have hg0 : w.heap.size < w0.heap.size := by rw [hw0]; simp
  go_enter Try.func27, Try.ntmps27
  go_wp2_with fail
  rw [← hw0] at H0 ⊢
  clear hw0
  refine (events_any _ _ _ _ _ _ _ (by omega) H0.out.1).mono ?_
  rintro r w1 ⟨v, k, hk, rfl, ⟨K, P, M, ho, hM⟩, hd⟩
  obtain ⟨a4, cap4, rfl, hc4, hx⟩ := SRow.of ho
  have H1 : Hid (SRow w1 w0.heap.size w1.heap.size a4 k 3 (evF K P M) ∧ (∀ i, i < k → -9223372036854775808 ≤ M i ∧ M i ≤ 9223372036854775807) ∧ Drew w.heap.size a n cap X 1000 w0 w1) := ⟨hx, fun i hi => by have := hM i hi; omega, hd.up (by omega)⟩
  clear ho hM hd hx
  go_wp2_with fail
  refine (cut_any _ _ _ _ _ _ _ _ _ _ _ _ _ _ _ (by omega) hk hg0 (Nat.le_refl _) H1.out.2.2.1 H1.out.1).mono ?_
  rintro _ w2 ⟨b, rfl, hb, ⟨Z, hZ⟩, hs, hd⟩
  have HF : Hid (GcDrew w (.returned (.tuple #[.slice a4 k cap4, .slice (some ⟨b, 0, none⟩) 6 6])) w2) := ⟨a4, k, cap4, K, P, M, b, Z, hk, hc4, rfl, hs.sl, H1.out.2.1, hZ, below_trn H0.out.2 (H1.out.2.2.2.trans hd.2) (Nat.le_refl _)⟩
  clear hs hd hZ H1 H0
  go_wp2
  exact bodyPost_ret (v := .tuple #[.slice a4 k cap4, .slice (some ⟨b, 0, none⟩) 6 6]) (by simp [results, Try.results27, go_sem]) rfl HF.out
set_option maxHeartbeats 1000000 in
theorem numberOf_any (a : Option Addr) (n cap : Nat) (X : Nat → Int) (w : World) (hn : n ≤ 9223372036854775807) (hs : Sl w a n 1 (byF X)) (hX : ∀ i, i < n → 0 ≤ X i ∧ X i ≤ 255) :
    Calls Try.prog 30 #[.slice a n cap] w fun r w' => ∃ v : Nat, v < 1000003 ∧ r = .returned (.int .i64 v) ∧ Below w.heap.size w w' := by
  go_enter Try.func30, Try.ntmps30
  go_wp2
  go_loopw [8, 3] (fun x y wr => ∃ i v : Nat, i ≤ n ∧ v < 1000003 ∧ x = .int .i64 i ∧ y = .int .i64 v ∧ Below w.heap.size w wr) (fun x _ _ => n - (intOf x).toNat)
  case atStart => exact ⟨0, 0, Nat.zero_le _, by omega, rfl, rfl, Below.refl _ _⟩
  case round =>
    obtain ⟨i, v, hi, hv, rfl, rfl, hBr⟩ := hrel
    by_cases hin : i < n
    · have hin' : (i : Int) < (n : Int) := by omega
      rcases hs.below hBr (Nat.le_refl _) with h | ⟨b, off, rfl, hbs, hE⟩
      · omega
      have hc := hE i hin 0 (by omega)
      rw [Nat.mul_one, Nat.add_zero] at hc
      have hxi := hX i hin
      obtain ⟨x, hx⟩ : ∃ x : Nat, X i = (x : Int) := ⟨(X i).toNat, by omega⟩
      have hc' : wr.cell? ⟨b, off + i, none⟩ = some (.int .u8 (x : Int)) := by rw [hc]; show some (byF X i 0) = _; simp [byF, hx]
      have HB : Hid (Below w.heap.size w wr) := hBr
      have hx255 : x ≤ 255 := by omega
      clear hc hE hs hX hxi hx hBr
      go_wp2
      go_roundw
      case rel => exact ⟨i + 1, (31 * v + x) % 1000003, by omega, Nat.mod_lt _ (by omega), by go_num, by congr 1, HB.out⟩
      case measure => simp [intOf]; omega
    · have hin' : ¬ (i : Int) < (n : Int) := by omega
      clear hs hX
      go_wp2
      go_ret
      exact ⟨v, hv, rfl, hBr⟩
end Go.Proofs.Ytjophhiccbkpjaa
