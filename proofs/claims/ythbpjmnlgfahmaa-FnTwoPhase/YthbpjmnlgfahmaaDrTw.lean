/- The draw of ops and locks: DrawIsTwoPhase. -/
import Derived.Test.YthbpjmnlgfahmaaDrO
import Derived.Deep.QuietTactic
import Derived.BigQuiet
namespace Go.Proofs.Ythbpjmnlgfahmaa
open Go.RowKit
set_option linter.unusedVariables false

/-- Block b holds k numbers that may be written. -/
def IR (w : World) (b k : Nat) : Prop := (∃ L : Nat → Int, IntS w b (b + 1) (some ⟨b, 0, none⟩) k L) ∧ b < w.heap.size
theorem IR.next {w w' : World} {b k : Nat} (h : IR w b k) (hb : Below w.heap.size w w') : IR w' b k := by
  obtain ⟨⟨L, hL⟩, hl⟩ := h
  exact ⟨⟨L, hL.below hb (by omega)⟩, Nat.lt_of_lt_of_le hl hb.size⟩
theorem IR.trn {w w' : World} {b k B C : Nat} (h : IR w b k) (ht : Trn B C w w') (ha : C ≤ b) : IR w' b k := by
  obtain ⟨⟨L, hL⟩, hl⟩ := h
  exact ⟨⟨L, Turned.ints (show Turned B C w w' from ht) hL (Or.inr ha)⟩, Nat.lt_of_lt_of_le hl ht.2.2.2.1⟩
theorem IR.set {w : World} {b k q : Nat} (h : IR w b k) (hq : q < k) (v : Int) : IR (w.setCell ⟨b, q, none⟩ (.int .i64 v)) b k := by
  obtain ⟨⟨L, hL⟩, hl⟩ := h
  exact ⟨⟨_, hL.set hq⟩, by simpa using hl⟩
theorem IR.at {w : World} {b k q : Nat} (h : IR w b k) (hq : q < k) : (∃ x, w.cell? ⟨b, q, none⟩ = some x) ∧ w.frozen? ⟨b, q, none⟩ = false := by
  obtain ⟨⟨L, hL⟩, hl⟩ := h
  rcases hL with h | ⟨g, e, _, _, _, hx⟩
  · omega
  · cases e; exact ⟨⟨_, (hx q hq).1⟩, (hx q hq).2⟩
theorem SRow.out {w : World} {B C : Nat} {a : Option Addr} {n c : Nat} {F : Nat → Nat → Value} {g q : Nat} (h : SRow w B C a n c F) (hg : C ≤ g) (v : Value) : SRow (w.setCell ⟨g, q, none⟩ v) B C a n c F :=
  h.trn ((Trn.refl g (g + 1) w).set (p := ⟨g, q, none⟩) (Nat.le_refl _) (by simp) v) (Or.inl hg)
theorem ir_made {w : World} {g n : Nat} {e : TypeId} {cap : Nat} (h : w.ownsRow g e 1 (.slice (some ⟨g, 0, none⟩) n cap) n (madeCells (Value.int .i64 0).cells (n * 1)).toList) : IR w g n := by
  have e0 : (madeCells (Value.int .i64 0).cells (n * 1)).toList = List.replicate n (.int .i64 0) := by rw [Nat.mul_one]; exact toList_madeCells_one _ _
  rw [e0] at h
  have hl := (h.lt g rfl).2
  refine ⟨⟨fun _ => 0, Or.inr ⟨g, rfl, Nat.le_refl _, by omega, hl, fun i hi => ⟨?_, h.frozenAt i⟩⟩⟩, hl⟩
  rw [World.ownsRow.cellAt h i (by omega)]
  simp [hi]
/-- What the loops hold: the ops, the locks, the cursor. -/
def TwH (W w0 : World) (g : Nat) (a : Option Addr) (n cap : Nat) (X : Nat → Int) (t : Nat) (B C : Nat) (a4 : Option Addr) (k : Nat) (K T : Nat → Int) (S : Nat → ByteArray) (b : Nat) : Prop :=
  SRow W B C a4 k 3 (opF K T S) ∧ IR W b k ∧ Drew g a n cap X t w0 W
theorem TwH.next {W W' w0 : World} {g : Nat} {a : Option Addr} {n cap : Nat} {X : Nat → Int} {t B C : Nat} {a4 : Option Addr} {k : Nat} {K T : Nat → Int} {S : Nat → ByteArray} {b : Nat} (h : TwH W w0 g a n cap X t B C a4 k K T S b) (hb : Below W.heap.size W W') : TwH W' w0 g a n cap X t B C a4 k K T S b := ⟨h.1.next hb, h.2.1.next hb, h.2.2.next hb⟩
theorem TwH.draw {W W' w0 : World} {g : Nat} {a : Option Addr} {n cap : Nat} {X : Nat → Int} {t t' B C : Nat} {a4 : Option Addr} {k : Nat} {K T : Nat → Int} {S : Nat → ByteArray} {b : Nat} (h : TwH W w0 g a n cap X t B C a4 k K T S b) (hd : Drew g a n cap X t' W W') (hB : g < B) (hb : g < b) : TwH W' w0 g a n cap X t' B C a4 k K T S b := ⟨h.1.trn hd.2 (Or.inr hB), h.2.1.trn hd.2 hb, h.2.2.trans hd⟩
theorem TwH.put {W w0 : World} {g : Nat} {a : Option Addr} {n cap : Nat} {X : Nat → Int} {t B C : Nat} {a4 : Option Addr} {k : Nat} {K T : Nat → Int} {S : Nat → ByteArray} {b q : Nat} (h : TwH W w0 g a n cap X t B C a4 k K T S b) (hq : q < k) (hC : C ≤ b) (hg : g < w0.heap.size) (hb : w0.heap.size ≤ b) (v : Int) : TwH (W.setCell ⟨b, q, none⟩ (.int .i64 v)) w0 g a n cap X t B C a4 k K T S b := ⟨h.1.out hC _, h.2.1.set hq v, h.2.2.out hg hb _⟩
theorem TwH.up {W w0 : World} {g : Nat} {a : Option Addr} {n cap : Nat} {X : Nat → Int} {t t' B C : Nat} {a4 : Option Addr} {k : Nat} {K T : Nat → Int} {S : Nat → ByteArray} {b : Nat} (h : TwH W w0 g a n cap X t B C a4 k K T S b) (ht : t ≤ t') : TwH W w0 g a n cap X t' B C a4 k K T S b := ⟨h.1, h.2.1, h.2.2.up ht⟩
def TwoDrew (w : World) (r : Ending) (w' : World) : Prop := ∃ (a4 : Option Addr) (k cap4 : Nat) (K T : Nat → Int) (S : Nat → ByteArray) (a5 : Option Addr) (cap5 : Nat) (L : Nat → Int),
  k ≤ 200 ∧ k ≤ cap4 ∧ r = .returned (.tuple #[.slice a4 k cap4, .slice a5 k cap5]) ∧ Sl w' a4 k 3 (opF K T S) ∧ (∀ i, i < k → (S i).size ≤ 21) ∧ Sl w' a5 k 1 (intF L) ∧ Below w.heap.size w w'

set_option maxRecDepth 100000 in
set_option maxHeartbeats 8000000 in
theorem drawTwo_any (a : Option Addr) (n cap : Nat) (X : Nat → Int) (w : World) (hn : n ≤ 9223372036854775807) (hs : Sl w a n 1 (byF X)) (hX : ∀ i, i < n → 0 ≤ X i ∧ X i ≤ 255) :
    Calls Try.prog 22 #[.slice a n cap] w (TwoDrew w) := by
  have H0 : Hid (Cur (w.alloc (.cells #[.slice a n cap, .int .i64 0, .int .u64 0] 84)) w.heap.size a n cap X 0 ∧ Below w.heap.size w (w.alloc (.cells #[.slice a n cap, .int .i64 0, .int .u64 0] 84))) := ⟨Cur.new _ hs hn hX, Go.Joins.below_alloc1 _ _⟩
  clear hs hX
  obtain ⟨i0, hi0, hz0, hz1, hz2⟩ := info_parts info_int
  obtain ⟨w0, hw0⟩ : ∃ w0, w0 = w.alloc (.cells #[.slice a n cap, .int .i64 0, .int .u64 0] 84) := ⟨_, rfl⟩
  have hg0 : w.heap.size < w0.heap.size := by rw [hw0]; simp
  go_enter Try.func22, Try.ntmps22
  go_wp2_with fail
  rw [← hw0] at H0 ⊢
  clear hw0
  refine (ops_any _ _ _ _ _ _ _ (by omega) H0.out.1).mono ?_
  rintro r w1 ⟨v, k, hk, rfl, ⟨K, T, S, ho, hS⟩, hd⟩
  obtain ⟨a4, cap4, rfl, hc4, hx⟩ := SRow.of ho
  have HS : Hid (SRow w1 w0.heap.size w1.heap.size a4 k 3 (opF K T S) ∧ (∀ i, i < k → (S i).size ≤ 21) ∧ Drew w.heap.size a n cap X 1000 w0 w1) := ⟨hx, hS, hd.up (by omega)⟩
  have hz1 : w0.heap.size ≤ w1.heap.size := hd.2.2.2.2.1
  clear ho hS hd hx
  go_wp2_with (first
    | (at_make; refine wpList_make_full _ rfl (.tmp 18) (.tmp 18) 25 rfl w1.heap.size 3 i0 (.int .i64 0) 1 Try.underlying25 hi0 hz0 (by assumption) .i64 .i64 _ _ k rfl rfl rfl rfl (by rw [hz2]; omega) (by unfold maxLen; omega) (Nat.le_refl _) ?_; intro w2 hown hgrow)
    | fail)
  have hB2 : Below w1.heap.size w1 w2 := (Below.refl _ _).grown hgrow (Nat.le_refl _) (fun k hk => by cases hk)
  have hI2 : IR w2 w1.heap.size k := ir_made hown
  have HT : Hid (TwH w2 w0 w.heap.size a n cap X 1000 w0.heap.size w1.heap.size a4 k K T S w1.heap.size) := ⟨HS.out.1.next hB2, hI2, HS.out.2.2.next hB2⟩
  clear hown hgrow hB2 hI2
  obtain ⟨b, hb⟩ : ∃ b, b = w1.heap.size := ⟨_, rfl⟩
  obtain ⟨B, hB⟩ : ∃ B, B = w0.heap.size := ⟨_, rfl⟩
  obtain ⟨g, hg⟩ : ∃ g, g = w.heap.size := ⟨_, rfl⟩
  have HSS : Hid ((∀ i, i < k → (S i).size ≤ 21) ∧ Below w.heap.size w w0 ∧ w.heap.size = g) := ⟨HS.out.2.1, H0.out.2, hg.symm⟩
  have hw0B : w0.heap.size = B := hB.symm
  rw [← hb, ← hB, ← hg] at HT
  rw [← hb, ← hg]
  have hgB : g < B := by omega
  have hBb : B ≤ b := by omega
  have hg0' : g < w0.heap.size := by omega
  have hb0 : w0.heap.size ≤ b := by omega
  clear hb hB hg HS H0 hg0 hz1
  go_wp2_with fail
  refine (pick_any _ _ _ _ _ _ _ _ (by omega) (by omega) HT.out.2.2.1).mono ?_
  rintro r w3 ⟨x3, hx3, rfl, hd⟩
  have H3 : Hid (TwH w3 w0 g a n cap X 1002 B b a4 k K T S b) := HT.out.draw hd hgB (by omega)
  clear hd HT
  have hx012 : x3 = 0 ∨ x3 = 1 ∨ x3 = 2 := by omega
  clear hx3
  go_wp2
  go_loopw [24] (fun x wr => ∃ i : Nat, i ≤ k ∧ x = .int .i64 i ∧ TwH wr w0 g a n cap X (1002 + 2 * i) B b a4 k K T S b) (fun x _ => k - (intOf x).toNat)
  case atStart => exact ⟨0, Nat.zero_le _, rfl, H3.out⟩
  case round =>
    obtain ⟨i, hi, rfl, hT⟩ := hrel
    clear H3
    obtain ⟨wi, hwi⟩ : ∃ x, x = wr := ⟨wr, rfl⟩
    subst hwi
    have HT : Hid (TwH wi w0 g a n cap X (1002 + 2 * i) B b a4 k K T S b) := hT
    by_cases hik : i < k
    · have hik' : (i : Int) < (k : Int) := by omega
      have hbl : b < wi.heap.size := hT.2.1.2
      obtain ⟨⟨xi, ri⟩, fi⟩ := hT.2.1.at hik
      rcases hT.1.1 with h | ⟨gl, rfl, hBl, hCl, hgl, hE, hR⟩
      · omega
      obtain ⟨c0, c1, c2⟩ := op_cells hE hik
      rw [Nat.zero_add] at c0 c1 c2
      obtain ⟨ki, hki⟩ : ∃ ki, ki = K i := ⟨_, rfl⟩
      obtain ⟨ti, hti⟩ : ∃ ti, ti = T i := ⟨_, rfl⟩
      obtain ⟨si, hsi⟩ : ∃ si, si = S i := ⟨_, rfl⟩
      rw [← hki] at c0
      rw [← hti] at c1
      rw [← hsi] at c2
      clear hT hE hR hki hti hsi
      cases h3 : (ki == 3)
      · have HM : Hid (TwH ((wi.setCell ⟨b, i, none⟩ (.int .i64 (i : Int))).alloc (.cells #[.int .i64 ki, .int .i64 ti, .string si] 44)) w0 g a n cap X (1002 + 2 * i) B b (some ⟨gl, 0, none⟩) k K T S b ∧ Bx ((wi.setCell ⟨b, i, none⟩ (.int .i64 (i : Int))).alloc (.cells #[.int .i64 ki, .int .i64 ti, .string si] 44)) wi.heap.size [.int .i64 ki, .int .i64 ti, .string si]) := by
          refine ⟨(HT.out.put hik (Nat.le_refl _) hg0' hb0 _).next (Go.Joins.below_alloc1 _ _), ?_⟩
          have := Bx.new (wi.setCell ⟨b, i, none⟩ (.int .i64 (i : Int))) [.int .i64 ki, .int .i64 ti, .string si] 44
          rw [World.size_setCell] at this; exact this
        clear HT
        rcases hx012 with rfl | rfl | rfl
        · go_wp2_with fail
          refine (l3Commit_any _ _ _ K T S _ _ (by omega) HM.out.1.1.sl).mono ?_
          rintro r w6 ⟨rfl, hb6⟩
          obtain ⟨cm, hcm⟩ : ∃ cm, cm = comF K T k ti := ⟨_, rfl⟩
          rw [← hcm]
          have HM6 : Hid (TwH w6 w0 g a n cap X (1002 + 2 * (i + 1)) B b (some ⟨gl, 0, none⟩) k K T S b) := (HM.out.1.next hb6).up (by omega)
          clear hb6 hcm HM ri fi c0 c1 c2
          by_cases hcm : (i : Int) < cm
          · obtain ⟨⟨x6, r6⟩, f6⟩ := HM6.out.2.1.at hik
            have hbl6 : b < w6.heap.size := HM6.out.2.1.2
            have HF : Hid (TwH (w6.setCell ⟨b, i, none⟩ (.int .i64 cm)) w0 g a n cap X (1002 + 2 * (i + 1)) B b (some ⟨gl, 0, none⟩) k K T S b) := HM6.out.put hik (Nat.le_refl _) hg0' hb0 _
            go_wp2
            go_roundw
            case rel => exact ⟨i + 1, by omega, by go_num, HF.out⟩
            case measure => simp [intOf]; omega
          · go_wp2
            go_roundw
            case rel => exact ⟨i + 1, by omega, by go_num, HM6.out⟩
            case measure => simp [intOf]; omega
        · go_wp2
          clear ri fi c0 c1 c2 xi
          go_loopw [11] (fun x wr => ∃ q : Nat, i ≤ q ∧ q ≤ k ∧ x = .int .i64 q ∧ TwH wr w0 g a n cap X (1002 + 2 * i) B b (some ⟨gl, 0, none⟩) k K T S b ∧ Bx wr wi.heap.size [.int .i64 ki, .int .i64 ti, .string si]) (fun x _ => k - (intOf x).toNat)
          case atStart => exact ⟨i, Nat.le_refl _, by omega, rfl, HM.out.1, HM.out.2⟩
          case round =>
            obtain ⟨q, hiq, hqk, rfl, hT, hb⟩ := hrel
            clear HM
            by_cases hql : q < k
            · have hql' : (q : Int) < (k : Int) := by omega
              obtain ⟨⟨xq, rq⟩, fq⟩ := hT.2.1.at hik
              have hblq : b < wr.heap.size := hT.2.1.2
              have hHQ : Hid (TwH wr w0 g a n cap X (1002 + 2 * i) B b (some ⟨gl, 0, none⟩) k K T S b ∧ Bx wr wi.heap.size [.int .i64 ki, .int .i64 ti, .string si]) := ⟨hT, hb⟩
              rcases hT.1.1 with h | ⟨g', e', hBl', hCl', hgl', hE, hR⟩
              · omega
              cases e'
              obtain ⟨c0, c1, c2⟩ := op_cells hE hql
              rw [Nat.zero_add] at c0 c1 c2
              have y1 := hb.cell 1 rfl
              have yl := hb.2
              obtain ⟨kq, hkq⟩ : ∃ kq, kq = K q := ⟨_, rfl⟩
              obtain ⟨tq, htq⟩ : ∃ tq, tq = T q := ⟨_, rfl⟩
              rw [← hkq] at c0
              rw [← htq] at c1
              clear hT hb hE hR hkq htq
              have HN : Hid (TwH wr.drew w0 g a n cap X (1002 + 2 * i) B b (some ⟨gl, 0, none⟩) k K T S b ∧ Bx wr.drew wi.heap.size [.int .i64 ki, .int .i64 ti, .string si]) := ⟨hHQ.out.1.next (Below.refl _ _).drew, hHQ.out.2.next (Below.refl _ _).drew⟩
              have HN2 : Hid (TwH (wr.drew.setCell ⟨b, i, none⟩ (.int .i64 (q : Int))) w0 g a n cap X (1002 + 2 * i) B b (some ⟨gl, 0, none⟩) k K T S b ∧ Bx (wr.drew.setCell ⟨b, i, none⟩ (.int .i64 (q : Int))) wi.heap.size [.int .i64 ki, .int .i64 ti, .string si]) := ⟨HN.out.1.put hik (Nat.le_refl _) hg0' hb0 _, HN.out.2.other (by omega)⟩
              clear hHQ
              cases h1 : (tq == ti)
              · go_upto_region 20 with fail
                go_quiet (fail)
                go_wp2
                go_roundw
                case rel => exact ⟨q + 1, by omega, by omega, by go_num, HN.out.1, HN.out.2⟩
                case measure => simp [intOf]; omega
              · cases h2 : (kq != 3)
                · go_upto_region 20 with fail
                  go_quiet (fail)
                  go_wp2
                  go_roundw
                  case rel => exact ⟨q + 1, by omega, by omega, by go_num, HN.out.1, HN.out.2⟩
                  case measure => simp [intOf]; omega
                · go_upto_region 20 with fail
                  go_quiet (fail)
                  go_wp2
                  go_roundw
                  case rel => exact ⟨q + 1, by omega, by omega, by go_num, HN2.out.1, HN2.out.2⟩
                  case measure => simp [intOf]; omega
            · have hql' : ¬ (q : Int) < (k : Int) := by omega
              have HF : Hid (TwH wr w0 g a n cap X (1002 + 2 * (i + 1)) B b (some ⟨gl, 0, none⟩) k K T S b) := hT.up (by omega)
              clear hT hb
              go_wp2
              go_roundw
              case rel => exact ⟨i + 1, by omega, by go_num, HF.out⟩
              case measure => simp [intOf]; omega
        · go_wp2_with fail
          refine (pick_any _ _ _ _ _ _ _ _ (by omega) (by omega) HM.out.1.2.2.1).mono ?_
          rintro r w6 ⟨x6, hx6, rfl, hd⟩
          have HM6 : Hid (TwH w6 w0 g a n cap X (1002 + 2 * (i + 1)) B b (some ⟨gl, 0, none⟩) k K T S b) := (HM.out.1.draw hd hgB (by omega)).up (by omega)
          clear hd HM ri fi c0 c1 c2
          obtain ⟨⟨y6, r6⟩, f6⟩ := HM6.out.2.1.at hik
          have hbl6 : b < w6.heap.size := HM6.out.2.1.2
          have HF : Hid (TwH (w6.setCell ⟨b, i, none⟩ (.int .i64 ((i : Int) + x6))) w0 g a n cap X (1002 + 2 * (i + 1)) B b (some ⟨gl, 0, none⟩) k K T S b) := HM6.out.put hik (Nat.le_refl _) hg0' hb0 _
          go_wp2
          go_roundw
          case rel => exact ⟨i + 1, by omega, by go_num, HF.out⟩
          case measure => simp [intOf]; omega
      · have HM : Hid (TwH (wi.alloc (.cells #[.int .i64 ki, .int .i64 ti, .string si] 44)) w0 g a n cap X (1002 + 2 * (i + 1)) B b (some ⟨gl, 0, none⟩) k K T S b) := (HT.out.next (Go.Joins.below_alloc1 _ _)).up (by omega)
        clear HT
        go_wp2
        go_roundw
        case rel => exact ⟨i + 1, by omega, by go_num, HM.out⟩
        case measure => simp [intOf]; omega
    · have hik' : ¬ (i : Int) < (k : Int) := by omega
      clear hT
      have HT2 : Hid (TwH wi w0 g a n cap X 1402 B b a4 k K T S b) := HT.out.up (by omega)
      have HP : Hid (∀ W : World, TwH W w0 g a n cap X 1408 B b a4 k K T S b → TwoDrew w (.returned (.tuple #[.slice a4 k cap4, .slice (some ⟨b, 0, none⟩) k k])) W) := by
        intro W h
        obtain ⟨⟨L, hL⟩, hl⟩ := h.2.1
        exact ⟨a4, k, cap4, K, T, S, some ⟨b, 0, none⟩, k, L, hk, hc4, rfl, h.1.sl, HSS.out.1, hL.sl, HSS.out.2.1.trans (h.2.2.2.below (by have := HSS.out.2.2; omega) (by have := HSS.out.2.2; omega))⟩
      clear HT hx012
      go_wp2_with fail
      refine (one_any _ _ _ _ _ _ _ _ (by omega) (by omega) HT2.out.2.2.1).mono ?_
      rintro r w7 ⟨b7, rfl, hd⟩
      have H7 : Hid (TwH w7 w0 g a n cap X 1404 B b a4 k K T S b) := HT2.out.draw hd hgB (by omega)
      clear hd HT2
      cases b7
      · have HF := HP.out _ (H7.out.up (by omega))
        have HFF : Hid (TwoDrew w (.returned (.tuple #[.slice a4 k cap4, .slice (some ⟨b, 0, none⟩) k k])) w7) := HF
        clear HF H7 HP
        go_wp2
        exact bodyPost_ret (v := .tuple #[.slice a4 k cap4, .slice (some ⟨b, 0, none⟩) k k]) (by simp [results, Try.results22, go_sem]) rfl HFF.out
      · by_cases hk0 : 0 < k
        · have hk0' : (0 : Int) < (k : Int) := by omega
          go_wp2_with fail
          refine (pick_any _ _ _ _ _ _ _ _ (by omega) (by omega) H7.out.2.2.1).mono ?_
          rintro r w8 ⟨x8, hx8, rfl, hd⟩
          have H8 : Hid (TwH w8 w0 g a n cap X 1406 B b a4 k K T S b) := H7.out.draw hd hgB (by omega)
          clear hd H7
          obtain ⟨y, hy, hyx⟩ : ∃ y : Nat, y < k ∧ x8 = (y : Int) := ⟨x8.toNat, by omega, by omega⟩
          subst hyx
          clear hx8
          go_wp2_with fail
          refine (pick_any _ _ _ _ _ _ _ _ (by omega) (by omega) H8.out.2.2.1).mono ?_
          rintro r w9 ⟨x9, hx9, rfl, hd⟩
          have H9 : Hid (TwH w9 w0 g a n cap X 1408 B b a4 k K T S b) := H8.out.draw hd hgB (by omega)
          clear hd H8
          obtain ⟨⟨y9, r9⟩, f9⟩ := H9.out.2.1.at hy
          have hbl9 : b < w9.heap.size := H9.out.2.1.2
          have hyk : (y : Int) < (k : Int) := by omega
          have HFF : Hid (TwoDrew w (.returned (.tuple #[.slice a4 k cap4, .slice (some ⟨b, 0, none⟩) k k])) (w9.setCell ⟨b, y, none⟩ (.int .i64 (x9 - 2)))) := HP.out _ (H9.out.put hy (Nat.le_refl _) hg0' hb0 _)
          clear HP H9
          go_wp2
          exact bodyPost_ret (v := .tuple #[.slice a4 k cap4, .slice (some ⟨b, 0, none⟩) k k]) (by simp [results, Try.results22, go_sem]) rfl HFF.out
        · have hk0' : ¬ (0 : Int) < (k : Int) := by omega
          have HFF : Hid (TwoDrew w (.returned (.tuple #[.slice a4 k cap4, .slice (some ⟨b, 0, none⟩) k k])) w7) := HP.out _ (H7.out.up (by omega))
          clear H7 HP
          go_wp2
          exact bodyPost_ret (v := .tuple #[.slice a4 k cap4, .slice (some ⟨b, 0, none⟩) k k]) (by simp [results, Try.results22, go_sem]) rfl HFF.out
end Go.Proofs.Ythbpjmnlgfahmaa
