/- The contract of the specification's l5Running. -/
import Derived.Test.YtenfaofhoheleaaGreatGsS
import Derived.Test.YtenfaofhoheleaaGreatGsB
namespace Go.Proofs.YtenfaofhoheleaaGreat
open Go.RowKit
set_option linter.unusedVariables false

def L5H (w : World) (bs rv : List Value) (W : World) : Prop := Bx W w.heap.size bs ∧ Bx W (w.heap.size + 1) rv ∧ Below w.heap.size w W
theorem L5H.next {w W W' : World} {bs rv : List Value} (h : L5H w bs rv W) (hb : Below W.heap.size W W') : L5H w bs rv W' := ⟨h.1.next hb, h.2.1.next hb, below_next' h.2.2 hb⟩
def ownQ (S : StV) (V : RuV) (j : Nat) : Prop := ∃ q, q < S.rn ∧ (S.R q).f0.toList = (V.cl j).f0.toList ∧ (S.R q).f5 = V.id
def txnV (S : StV) (V : RuV) (k : Nat) : Prop := V.id = (k : Int) + 1 ∧ runP V ∧ (mayB V.st = true → ownsP S V)
theorem no_own {S : StV} {V : RuV} {k i : Nat} (hm : mayB V.st = true) (hi : i < V.cn) (h : ¬ ownQ S V i) : clB (txnV S V k) = false := clB_no fun g => h (g.2.2 hm i hi)
theorem no_cl {S : StV} {V : RuV} {k i : Nat} (hi : i < V.cn) (h : ¬ cell1 V.cl i) : clB (txnV S V k) = false := clB_no fun g => h (g.2.1.2.2.1 i hi)
theorem no_lk {S : StV} {V : RuV} {k i : Nat} (hi : i < V.ln) (h : ¬ look1 V.lk i) : clB (txnV S V k) = false := clB_no fun g => h (g.2.1.2.1.2 i hi)
theorem txn_is {S : StV} {V : RuV} {k : Nat} (h1 : V.id = (k : Int) + 1) (h2 : inR V.st 1 5 = true) (h3 : V.ln ≤ 40 ∧ looksP V.lk V.ln) (h4 : cellsP V.cl V.cn) (h5 : mayB V.st = true → ownsP S V) : clB (txnV S V k) = tidOk V.st V.e V.s V.b :=
  clB_eq ⟨fun h => ⟨h1, ⟨h2, h3, h4, h⟩, h5⟩, fun g => g.2.1.2.2.2⟩

theorem st_cases (s : Int) : ((s == 2) = true ∧ (s == 3) = false ∧ (s == 4) = false) ∨ ((s == 2) = false ∧ (s == 3) = true ∧ (s == 4) = false) ∨ ((s == 2) = false ∧ (s == 3) = false ∧ (s == 4) = true) ∨ ((s == 2) = false ∧ (s == 3) = false ∧ (s == 4) = false) := by
  simp only [beq_iff_eq, beq_eq_false_iff_ne]; omega
set_option maxRecDepth 100000 in
set_option maxHeartbeats 16000000 in
theorem l5Running_at (ra : Option Addr) (rc b off tc : Nat) (oa : Option Addr) (oc : Nat) (la : Option Addr) (lc : Nat) (ca : Option Addr) (cc : Nat) (S : StV) (V : RuV) (k : Nat) (w : World) (hk : k < S.tn) (htn : S.tn ≤ 1048576) (hrn : S.rn ≤ 1048576) (hl : RuLen V) (hok : RuOk V) (hlc : V.ln ≤ lc) (hr : RiseK (fun q => (S.R q).f0) S.rn) (hsr : Sl w ra S.rn 6 (recordF S.R)) (hsl : Sl w la V.ln 5 (lookF V.lk)) (hsc : Sl w ca V.cn 2 (cellF V.cl))
    (hcs : w.cell? ⟨b, off + k * 7, none⟩ = some (.int .i64 V.id) ∧ w.cell? ⟨b, off + k * 7 + 1, none⟩ = some (.int .i64 V.st) ∧ w.cell? ⟨b, off + k * 7 + 2, none⟩ = some (.slice la V.ln lc) ∧ w.cell? ⟨b, off + k * 7 + 3, none⟩ = some (.slice ca V.cn cc) ∧ w.cell? ⟨b, off + k * 7 + 4, none⟩ = some (.int .i64 V.e) ∧ w.cell? ⟨b, off + k * 7 + 5, none⟩ = some (.int .i64 V.s) ∧ w.cell? ⟨b, off + k * 7 + 6, none⟩ = some (.bool V.b)) (hbs : b < w.heap.size) :
    Calls Tryz.prog 55 #[.agg #[.int .i64 S.ep, .slice ra S.rn rc, .slice (some ⟨b, off, none⟩) S.tn tc, .slice oa S.on oc], .int .i64 k] w fun r w' => r = .returned (.bool (clB (txnV S V k))) ∧ Below w.heap.size w w' := by
  have hk' : (k : Int) < (S.tn : Int) := by omega
  have HS0 : Hid (Sl w la V.ln 5 (lookF V.lk)) := hsl
  have HS : Hid (RuLen V ∧ Sl w ca V.cn 2 (cellF V.cl) ∧ Sl w ra S.rn 6 (recordF S.R) ∧ S.rn ≤ 1048576 ∧ RiseK (fun q => (S.R q).f0) S.rn) := ⟨hl, hsc, hsr, hrn, hr⟩
  have hcn := hok.2
  have hlnn := hok.1
  have HX : Hid (L5H w [.int .i64 S.ep, .slice ra S.rn rc, .slice (some ⟨b, off, none⟩) S.tn tc, .slice oa S.on oc] [.int .i64 V.id, .int .i64 V.st, .slice la V.ln lc, .slice ca V.cn cc, .int .i64 V.e, .int .i64 V.s, .bool V.b] ((w.alloc (.cells #[.int .i64 S.ep, .slice ra S.rn rc, .slice (some ⟨b, off, none⟩) S.tn tc, .slice oa S.on oc] 34)).alloc (.cells #[.int .i64 V.id, .int .i64 V.st, .slice la V.ln lc, .slice ca V.cn cc, .int .i64 V.e, .int .i64 V.s, .bool V.b] 71))) := by
    have h1 := Bx.new (w.alloc (.cells #[.int .i64 S.ep, .slice ra S.rn rc, .slice (some ⟨b, off, none⟩) S.tn tc, .slice oa S.on oc] 34)) [.int .i64 V.id, .int .i64 V.st, .slice la V.ln lc, .slice ca V.cn cc, .int .i64 V.e, .int .i64 V.s, .bool V.b] 71
    rw [World.size_alloc] at h1
    exact ⟨(Bx.new w [.int .i64 S.ep, .slice ra S.rn rc, .slice (some ⟨b, off, none⟩) S.tn tc, .slice oa S.on oc] _).alloc _, h1, below_next' (Go.Joins.below_alloc1 _ _) (Go.Joins.below_alloc1 _ _)⟩
  obtain ⟨c0, c1, c2, c3, c4, c5, c6⟩ := hcs
  clear hl hsl hsc hsr hr hok
  cases eI : (V.id != (k : Int) + 1)
  case true =>
    have HN : Hid (clB (txnV S V k) = false) := clB_no fun g => by rw [g.1] at eI; simp at eI
    go_enter Tryz.func55, Tryz.ntmps55
    go_wp2
    go_ret
    exact ⟨ret_bool HN.out.symm, HX.out.2.2⟩
  have HID : Hid (V.id = (k : Int) + 1) := by show _ = _; simpa using eI
  cases e0 : inR V.st 1 5
  · have HN : Hid (clB (txnV S V k) = false) := clB_no fun g => by rw [g.2.1.1] at e0; cases e0
    go_enter Tryz.func55, Tryz.ntmps55
    go_wp2_with (go_at_call 38; refine (l1In_any _ _ _ _).mono ?_; rintro e w' ⟨rfl, rfl⟩)
    go_ret
    exact ⟨ret_bool HN.out.symm, HX.out.2.2⟩
  have HI : Hid (∀ W, Calls Tryz.prog 38 #[.int .i64 V.st, .int .i64 1, .int .i64 5] W fun r w' => r = .returned (.bool true) ∧ w' = W) := fun W => by have := l1In_any V.st 1 5 W; rw [e0] at this; exact this
  by_cases h40 : V.ln ≤ 40
  case neg =>
    have h40' : (40 : Int) < (V.ln : Int) := by omega
    have HN : Hid (clB (txnV S V k) = false) := clB_no fun g => h40 g.2.1.2.1.1
    go_enter Tryz.func55, Tryz.ntmps55
    go_wp2_with (go_at_call 38; refine (HI.out _).mono ?_; rintro e w' ⟨rfl, rfl⟩)
    go_ret
    exact ⟨ret_bool HN.out.symm, HX.out.2.2⟩
  have h40' : decide ((40 : Int) < (V.ln : Int)) = false := by simp; omega
  have h40n : decide (40 < V.ln) = false := by simp; omega
  go_enter Tryz.func55, Tryz.ntmps55
  go_wp2_with (go_at_call 38; refine (HI.out _).mono ?_; rintro e w' ⟨rfl, rfl⟩)
  go_loopw [40] (fun x wr => ∃ i : Nat, i ≤ V.ln ∧ x = .int .i64 i ∧ looksP V.lk i ∧ L5H w [.int .i64 S.ep, .slice ra S.rn rc, .slice (some ⟨b, off, none⟩) S.tn tc, .slice oa S.on oc] [.int .i64 V.id, .int .i64 V.st, .slice la V.ln lc, .slice ca V.cn cc, .int .i64 V.e, .int .i64 V.s, .bool V.b] wr) (fun x _ => V.ln - (intOf x).toNat)
  case atStart => exact ⟨0, Nat.zero_le _, rfl, fun j hj => absurd hj (by omega), HX.out⟩
  case round =>
    obtain ⟨i, hi, rfl, hall, hL⟩ := hrel
    obtain ⟨wo, hwo⟩ : ∃ x, x = wr := ⟨wr, rfl⟩
    subst hwo
    clear HX c0 c1 c2 c3 c4 c5 c6
    by_cases hin : i < V.ln
    · rcases HS0.out.below hL.2.2 (Nat.le_refl _) with h | ⟨b1, o1, rfl, hbs1, hE⟩
      · omega
      have hin' : (i : Int) < (V.ln : Int) := by omega
      have hicp : (i : Int) ≤ (lc : Int) := by omega
      obtain ⟨d0, d1, d2, d3, d4⟩ := look_cells hE hin
      have hd : Below wo.heap.size wo (wo.alloc (.cells #[.string (V.lk i).f0, .string (V.lk i).f1, .int .i64 (V.lk i).f2, .int .i64 (V.lk i).f3, .bool (V.lk i).f4] 110)) := Go.Joins.below_alloc1 _ _
      have H0 : Hid (L5H w [.int .i64 S.ep, .slice ra S.rn rc, .slice (some ⟨b, off, none⟩) S.tn tc, .slice oa S.on oc] [.int .i64 V.id, .int .i64 V.st, .slice (some ⟨b1, o1, none⟩) V.ln lc, .slice ca V.cn cc, .int .i64 V.e, .int .i64 V.s, .bool V.b] (wo.alloc (.cells #[.string (V.lk i).f0, .string (V.lk i).f1, .int .i64 (V.lk i).f2, .int .i64 (V.lk i).f3, .bool (V.lk i).f4] 110)) ∧ Bx (wo.alloc (.cells #[.string (V.lk i).f0, .string (V.lk i).f1, .int .i64 (V.lk i).f2, .int .i64 (V.lk i).f3, .bool (V.lk i).f4] 110)) wo.heap.size [.string (V.lk i).f0, .string (V.lk i).f1, .int .i64 (V.lk i).f2, .int .i64 (V.lk i).f3, .bool (V.lk i).f4] ∧ looksP V.lk i ∧ Elems (wo.alloc (.cells #[.string (V.lk i).f0, .string (V.lk i).f1, .int .i64 (V.lk i).f2, .int .i64 (V.lk i).f3, .bool (V.lk i).f4] 110)) b1 o1 V.ln 5 (lookF V.lk) ∧ b1 < ((wo.alloc (.cells #[.string (V.lk i).f0, .string (V.lk i).f1, .int .i64 (V.lk i).f2, .int .i64 (V.lk i).f3, .bool (V.lk i).f4] 110))).heap.size) := ⟨hL.next hd, Bx.new wo [.string (V.lk i).f0, .string (V.lk i).f1, .int .i64 (V.lk i).f2, .int .i64 (V.lk i).f3, .bool (V.lk i).f4] _, hall, hE.below hd hbs1, Nat.lt_of_lt_of_le hbs1 hd.size⟩
      clear hall hL hE hd hbs1
      have hz := HS.out.1.2.2.1 i hin
      have HC : Hid (lookOk (V.lk i) = (keyOk (V.lk i).f0 && (valOk (V.lk i).f1 && (goodT (V.lk i).f2 (V.lk i).f3 && !(V.lk i).f4)))) := rfl
      cases e1 : keyOk (V.lk i).f0
      · have HN : Hid (clB (txnV S V k) = false) := no_lk hin (fun g => by have := g.1; rw [HC.out, e1] at this; cases this)
        go_wp2_with (first
      | (go_at_call 50; refine (l1Key_any _ _ hz.1).mono ?_; rintro e w' ⟨rfl, rfl⟩)
      | (go_at_call 51; refine (l1Value_any _ _ hz.2).mono ?_; rintro e w' ⟨rfl, rfl⟩))
        go_ret
        exact ⟨ret_bool HN.out.symm, H0.out.1.2.2⟩
      cases e2 : valOk (V.lk i).f1
      · have HN : Hid (clB (txnV S V k) = false) := no_lk hin (fun g => by have := g.1; rw [HC.out, e1, e2] at this; cases this)
        go_wp2_with (first
      | (go_at_call 50; refine (l1Key_any _ _ hz.1).mono ?_; rintro e w' ⟨rfl, rfl⟩)
      | (go_at_call 51; refine (l1Value_any _ _ hz.2).mono ?_; rintro e w' ⟨rfl, rfl⟩))
        go_ret
        exact ⟨ret_bool HN.out.symm, H0.out.1.2.2⟩
      go_wp2_with (first
      | (go_at_call 50; refine (l1Key_any _ _ hz.1).mono ?_; rintro e w' ⟨rfl, rfl⟩)
      | (go_at_call 51; refine (l1Value_any _ _ hz.2).mono ?_; rintro e w' ⟨rfl, rfl⟩))
      refine (l1Tid_any _ _ _ _).mono ?_
      rintro r w1 ⟨rfl, hb⟩
      have H1 : Hid (L5H w [.int .i64 S.ep, .slice ra S.rn rc, .slice (some ⟨b, off, none⟩) S.tn tc, .slice oa S.on oc] [.int .i64 V.id, .int .i64 V.st, .slice (some ⟨b1, o1, none⟩) V.ln lc, .slice ca V.cn cc, .int .i64 V.e, .int .i64 V.s, .bool V.b] w1 ∧ Bx w1 wo.heap.size [.string (V.lk i).f0, .string (V.lk i).f1, .int .i64 (V.lk i).f2, .int .i64 (V.lk i).f3, .bool (V.lk i).f4] ∧ looksP V.lk i ∧ Elems w1 b1 o1 V.ln 5 (lookF V.lk) ∧ b1 < w1.heap.size) := ⟨H0.out.1.next hb, H0.out.2.1.next hb, H0.out.2.2.1, H0.out.2.2.2.1.below hb H0.out.2.2.2.2, Nat.lt_of_lt_of_le H0.out.2.2.2.2 hb.size⟩
      clear hb H0 d0 d1 d2 d3 d4
      have f4 := H1.out.2.1.cell 4 rfl
      have fz := H1.out.2.1.2
      have g2 := H1.out.1.2.1.cell 2 rfl
      have gz := H1.out.1.2.1.2
      cases e3 : goodT (V.lk i).f2 (V.lk i).f3
      · have HN : Hid (clB (txnV S V k) = false) := no_lk hin (fun g => by have := g.1; rw [HC.out, e1, e2, e3] at this; cases this)
        go_wp2
        go_ret
        exact ⟨ret_bool HN.out.symm, H1.out.1.2.2⟩
      cases e4 : (V.lk i).f4
      case true =>
        have HN : Hid (clB (txnV S V k) = false) := no_lk hin (fun g => by have := g.1; rw [HC.out, e1, e2, e3, e4] at this; cases this)
        rw [e4] at f4
        go_wp2
        go_ret
        exact ⟨ret_bool HN.out.symm, H1.out.1.2.2⟩
      have HO : Hid (lookOk (V.lk i) = true) := by show _ = _; rw [HC.out, e1, e2, e3, e4]; rfl
      rw [e4] at f4
      go_wp2
      clear f4 fz g2 gz HC
      go_loopw [71] (fun x wr => ∃ j : Nat, j ≤ i ∧ x = .int .i64 j ∧ (∀ q, q < j → (V.lk q).f0.toList ≠ (V.lk i).f0.toList) ∧ Below w1.heap.size w1 wr) (fun x _ => i - (intOf x).toNat)
      case atStart => exact ⟨0, Nat.zero_le _, rfl, fun q hq => absurd hq (by omega), Below.refl _ _⟩
      case round =>
        obtain ⟨j, hj, rfl, hno, hBi⟩ := hrel
        have HX : Hid (L5H w [.int .i64 S.ep, .slice ra S.rn rc, .slice (some ⟨b, off, none⟩) S.tn tc, .slice oa S.on oc] [.int .i64 V.id, .int .i64 V.st, .slice (some ⟨b1, o1, none⟩) V.ln lc, .slice ca V.cn cc, .int .i64 V.e, .int .i64 V.s, .bool V.b] wr ∧ Bx wr wo.heap.size [.string (V.lk i).f0, .string (V.lk i).f1, .int .i64 (V.lk i).f2, .int .i64 (V.lk i).f3, .bool (V.lk i).f4] ∧ Below w1.heap.size w1 wr) := ⟨H1.out.1.next hBi, H1.out.2.1.next hBi, hBi⟩
        by_cases hji : j < i
        · have hji' : (j : Int) < (i : Int) := by omega
          obtain ⟨d0, d1, d2, d3, d4⟩ := look_cells (H1.out.2.2.2.1.below hBi H1.out.2.2.2.2) (show j < V.ln by omega)
          have HNo : Hid (∀ q, q < j → (V.lk q).f0.toList ≠ (V.lk i).f0.toList) := hno
          have f0 := HX.out.2.1.cell 0 rfl
          have fz := HX.out.2.1.2
          clear hno hBi
          cases q1 : ((V.lk j).f0.toList == (V.lk i).f0.toList)
          · go_wp2
            go_roundw
            case rel => exact ⟨j + 1, by omega, by go_num, upto_succ HNo.out (by simpa using q1), below_next' HX.out.2.2 (Go.Joins.below_alloc1 _ _)⟩
            case measure => simp [intOf]; omega
          · have HN : Hid (clB (txnV S V k) = false) := no_lk hin (fun g => g.2 j hji (by simpa using q1))
            go_wp2
            go_ret
            exact ⟨ret_bool HN.out.symm, below_next' HX.out.1.2.2 (Go.Joins.below_alloc1 _ _)⟩
        · have hji2 : j = i := by omega
          subst hji2
          have HY : Hid (looksP V.lk (j + 1)) := upto_succ H1.out.2.2.1 ⟨HO.out, hno⟩
          clear hno hBi H1
          go_wp2
          go_roundw
          case rel => exact ⟨j + 1, by omega, by go_num, HY.out, HX.out.1⟩
          case measure => simp [intOf]; omega
    · have hin2 : i = V.ln := by omega
      have hin' : ¬ (i : Int) < (V.ln : Int) := by omega
      have HLO : Hid (V.ln ≤ 40 ∧ looksP V.lk V.ln) := ⟨h40, by rw [hin2] at hall; exact hall⟩
      have HX1 : Hid (L5H w [.int .i64 S.ep, .slice ra S.rn rc, .slice (some ⟨b, off, none⟩) S.tn tc, .slice oa S.on oc] [.int .i64 V.id, .int .i64 V.st, .slice la V.ln lc, .slice ca V.cn cc, .int .i64 V.e, .int .i64 V.s, .bool V.b] wo) := hL
      have v1 := hL.2.1.cell 1 rfl
      have v3 := hL.2.1.cell 3 rfl
      have vz := hL.2.1.2
      clear hall hL hin2 HS0
      rcases st_cases V.st with ⟨e2, e3, e4⟩ | ⟨e2, e3, e4⟩ | ⟨e2, e3, e4⟩ | ⟨e2, e3, e4⟩
      · -- true false false
        have HM : Hid (mayB V.st = true) := by show _ = _; rw [mayB, e2, e3]; rfl
        have HB : Hid (hasB V.st = false) := by show _ = _; rw [hasB, e3, e4]; rfl
        go_wp2
        clear v1 v3 vz
        go_loopw [93] (fun x wr => ∃ i : Nat, i ≤ V.cn ∧ x = .int .i64 i ∧ cellsP V.cl i ∧ (∀ j, j < i → ownQ S V j) ∧ L5H w [.int .i64 S.ep, .slice ra S.rn rc, .slice (some ⟨b, off, none⟩) S.tn tc, .slice oa S.on oc] [.int .i64 V.id, .int .i64 V.st, .slice la V.ln lc, .slice ca V.cn cc, .int .i64 V.e, .int .i64 V.s, .bool V.b] wr) (fun x _ => V.cn - (intOf x).toNat)
        case atStart => exact ⟨0, Nat.zero_le _, rfl, fun j hj => absurd hj (by omega), fun j hj => absurd hj (by omega), HX1.out⟩
        case round =>
          obtain ⟨i, hi, rfl, hall, hown, hL⟩ := hrel
          clear HX1
          by_cases hic : i < V.cn
          · rcases HS.out.2.1.below hL.2.2 (Nat.le_refl _) with h | ⟨b2, o2, rfl, hbs2, hE⟩
            · omega
            have hic' : (i : Int) < (V.cn : Int) := by omega
            obtain ⟨c0, c1⟩ := cell_cells hE hic
            have hd : Below wr.heap.size wr (wr.alloc (.cells #[.string (V.cl i).f0, .string (V.cl i).f1] 55)).drew := (Go.Joins.below_alloc1 _ _).drew
            have H1 : Hid (Bx (wr.alloc (.cells #[.string (V.cl i).f0, .string (V.cl i).f1] 55)).drew wr.heap.size [.string (V.cl i).f0, .string (V.cl i).f1] ∧ Bx (wr.alloc (.cells #[.string (V.cl i).f0, .string (V.cl i).f1] 55)).drew w.heap.size [.int .i64 S.ep, .slice ra S.rn rc, .slice (some ⟨b, off, none⟩) S.tn tc, .slice oa S.on oc] ∧ Bx (wr.alloc (.cells #[.string (V.cl i).f0, .string (V.cl i).f1] 55)).drew (w.heap.size + 1) [.int .i64 V.id, .int .i64 V.st, .slice la V.ln lc, .slice (some ⟨b2, o2, none⟩) V.cn cc, .int .i64 V.e, .int .i64 V.s, .bool V.b] ∧ Below w.heap.size w (wr.alloc (.cells #[.string (V.cl i).f0, .string (V.cl i).f1] 55)).drew ∧ cellsP V.cl i ∧ (∀ j, j < i → ownQ S V j)) := ⟨(Bx.new wr [.string (V.cl i).f0, .string (V.cl i).f1] 55).next (Below.refl _ _).drew, hL.1.next hd, hL.2.1.next hd, below_next' hL.2.2 hd, hall, hown⟩
            have HE : Hid (∀ q, q < V.cn → (wr.alloc (.cells #[.string (V.cl i).f0, .string (V.cl i).f1] 55)).drew.cell? ⟨b2, o2 + q * 2, none⟩ = some (.string (V.cl q).f0)) := fun q hq => (hd.cell (p := ⟨b2, o2 + q * 2, none⟩) hbs2).trans (cell_cells hE hq).1
            clear hall hown hL hE hd
            have hz := HS.out.1.2.2.2 i hic
            cases e1 : keyOk (V.cl i).f0
            · have HK : Hid (∀ W, Calls Tryz.prog 50 #[.string (V.cl i).f0] W fun r w' => r = .returned (.bool false) ∧ w' = W) := fun W => by have := l1Key_any (V.cl i).f0 W hz.1; rw [e1] at this; exact this
              have HN : Hid (clB (txnV S V k) = false) := no_cl hic (fun g => by rw [g.1.1] at e1; cases e1)
              clear HE
              go_upto_region 20 with fail
              refine wp_region_noPanic ?_
              refine wp_region_held_drew (S := fun W => Bx W wr.heap.size [.string (V.cl i).f0, .string (V.cl i).f1] ∧ Bx W (w.heap.size + 1) [.int .i64 V.id, .int .i64 V.st, .slice la V.ln lc, .slice (some ⟨b2, o2, none⟩) V.cn cc, .int .i64 V.e, .int .i64 V.s, .bool V.b]) (by kernel_rfl) ⟨H1.out.1, H1.out.2.2.1⟩ (fun hHeld => ?_)
              refine take_v (v := ?_) 0 ⟨some 98, Op.fieldAddr 55 (Operand.tmp 12) 0, _, _, _, none⟩ rfl (fun _ _ _ h => h) ?_ hHeld ?_
              rotate_left
              · (intro W _; go_simp <;> (try with_reducible rfl))
              refine take_v (v := ?_) 1 ⟨some 99, Op.load 9 (Operand.tmp 98), _, _, _, none⟩ rfl (fun _ _ _ h => h) ?_ hHeld ?_
              rotate_left
              · (intro W hSW; (have s0 := hSW.1.cell 0 rfl; have s1 := hSW.1.cell 1 rfl; have s2 := hSW.1.2; have s3 := hSW.2.cell 3 rfl; have s4 := hSW.2.2); go_simp <;> (try with_reducible rfl))
              refine ready_call 2 ⟨some 100, Op.call { callee := Callee.value (Operand.func 50), args := #[Operand.tmp 99], argTypes := #[9] }, _, _, _, none⟩ (by kernel_rfl) rfl (by kernel_rfl) (fun KC hK => ?_)
              go_wp2_with fail
              refine (HK.out _).mono ?_
              rintro r w2 ⟨rfl, rfl⟩
              refine hK.out _ _ hHeld (fun hHeld => ?_)
              clear hK KC
              refine take_v (v := ?_) 3 ⟨some 101, Op.unOp UnOp.not 4 (Operand.tmp 100), _, _, _, none⟩ rfl (fun _ _ _ h => h) ?_ hHeld ?_
              rotate_left
              · (intro W _; go_simp <;> (try with_reducible rfl))
              refine take_v (v := ?_) 4 ⟨some 102, Op.move (Operand.tmp 101), _, _, _, none⟩ rfl (fun _ _ _ h => h) ?_ hHeld ?_
              rotate_left
              · (intro W _; go_simp <;> (try with_reducible rfl))
              refine take_n 5 ⟨some 103, Op.fieldAddr 55 (Operand.tmp 12) 1, _, _, _, some (4, false)⟩ rfl (fun _ _ _ h => h) hHeld ?_
              refine take_n 6 ⟨some 104, Op.load 9 (Operand.tmp 103), _, _, _, some (4, false)⟩ rfl (fun _ _ _ h => h) hHeld ?_
              refine take_n 7 ⟨some 105, Op.call { callee := Callee.value (Operand.func 51), args := #[Operand.tmp 104], argTypes := #[9] }, _, _, _, some (4, false)⟩ rfl (fun _ _ _ h => h) hHeld ?_
              refine take_n 8 ⟨some 106, Op.unOp UnOp.not 4 (Operand.tmp 105), _, _, _, some (4, false)⟩ rfl (fun _ _ _ h => h) hHeld ?_
              refine take_v (v := ?_) 9 ⟨some 107, Op.pick (Operand.tmp 102) (Operand.const (Value.bool true)) (Operand.tmp 106), _, _, _, none⟩ rfl (fun _ _ _ h => h) ?_ hHeld ?_
              rotate_left
              · (intro W _; go_simp <;> (try with_reducible rfl))
              refine take_v (v := ?_) 10 ⟨some 108, Op.move (Operand.tmp 107), _, _, _, none⟩ rfl (fun _ _ _ h => h) ?_ hHeld ?_
              rotate_left
              · (intro W _; go_simp <;> (try with_reducible rfl))
              refine take_n 11 ⟨some 109, Op.move (Operand.tmp 11), _, _, _, some (10, false)⟩ rfl (fun _ _ _ h => h) hHeld ?_
              refine take_n 12 ⟨some 110, Op.binOp BinOp.gtr 3 (Operand.tmp 109) (Operand.const (Value.int IntKind.i64 0)) 3, _, _, _, some (10, false)⟩ rfl (fun _ _ _ h => h) hHeld ?_
              refine take_n 13 ⟨some 111, Op.move (Operand.tmp 110), _, _, _, some (10, false)⟩ rfl (fun _ _ _ h => h) hHeld ?_
              refine take_n 14 ⟨some 112, Op.fieldAddr 71 (Operand.tmp 5) 3, _, _, _, some (13, true)⟩ rfl (fun _ _ _ h => h) hHeld ?_
              refine take_n 15 ⟨some 113, Op.load 28 (Operand.tmp 112), _, _, _, some (13, true)⟩ rfl (fun _ _ _ h => h) hHeld ?_
              refine take_n 16 ⟨some 114, Op.move (Operand.tmp 11), _, _, _, some (13, true)⟩ rfl (fun _ _ _ h => h) hHeld ?_
              refine take_n 17 ⟨some 115, Op.binOp BinOp.sub 3 (Operand.tmp 114) (Operand.const (Value.int IntKind.i64 1)) 3, _, _, _, some (13, true)⟩ rfl (fun _ _ _ h => h) hHeld ?_
              refine take_n 18 ⟨some 116, Op.indexAddr 28 (Operand.tmp 113) (Operand.tmp 115), _, _, _, some (13, true)⟩ rfl (fun _ _ _ h => h) hHeld ?_
              refine take_n 19 ⟨some 117, Op.fieldAddr 55 (Operand.tmp 116) 0, _, _, _, some (13, true)⟩ rfl (fun _ _ _ h => h) hHeld ?_
              refine take_n 20 ⟨some 118, Op.load 9 (Operand.tmp 117), _, _, _, some (13, true)⟩ rfl (fun _ _ _ h => h) hHeld ?_
              refine take_n 21 ⟨some 119, Op.fieldAddr 55 (Operand.tmp 12) 0, _, _, _, some (13, true)⟩ rfl (fun _ _ _ h => h) hHeld ?_
              refine take_n 22 ⟨some 120, Op.load 9 (Operand.tmp 119), _, _, _, some (13, true)⟩ rfl (fun _ _ _ h => h) hHeld ?_
              refine take_n 23 ⟨some 121, Op.binOp BinOp.geq 9 (Operand.tmp 118) (Operand.tmp 120) 9, _, _, _, some (13, true)⟩ rfl (fun _ _ _ h => h) hHeld ?_
              refine take_n 24 ⟨some 122, Op.pick (Operand.tmp 111) (Operand.tmp 121) (Operand.const (Value.bool false)), _, _, _, some (10, false)⟩ rfl (fun _ _ _ h => h) hHeld ?_
              refine take_v (v := ?_) 25 ⟨some 123, Op.pick (Operand.tmp 108) (Operand.const (Value.bool true)) (Operand.tmp 122), _, _, _, none⟩ rfl (fun _ _ _ h => h) ?_ hHeld ?_
              rotate_left
              · (intro W _; go_simp <;> (try with_reducible rfl))
              refine wpAnyH_done (by kernel_rfl) ?_ _
              refine NoPanic.normal ?_
              go_wp2
              go_ret
              exact ⟨ret_bool HN.out.symm, H1.out.2.2.2.1⟩
            have HK : Hid (∀ W, Calls Tryz.prog 50 #[.string (V.cl i).f0] W fun r w' => r = .returned (.bool true) ∧ w' = W) := fun W => by have := l1Key_any (V.cl i).f0 W hz.1; rw [e1] at this; exact this
            cases e2' : valOk (V.cl i).f1
            · have HL : Hid (∀ W, Calls Tryz.prog 51 #[.string (V.cl i).f1] W fun r w' => r = .returned (.bool false) ∧ w' = W) := fun W => by have := l1Value_any (V.cl i).f1 W hz.2; rw [e2'] at this; exact this
              have HN : Hid (clB (txnV S V k) = false) := no_cl hic (fun g => by rw [g.1.2] at e2'; cases e2')
              clear HE
              go_upto_region 20 with fail
              refine wp_region_noPanic ?_
              refine wp_region_held_drew (S := fun W => Bx W wr.heap.size [.string (V.cl i).f0, .string (V.cl i).f1] ∧ Bx W (w.heap.size + 1) [.int .i64 V.id, .int .i64 V.st, .slice la V.ln lc, .slice (some ⟨b2, o2, none⟩) V.cn cc, .int .i64 V.e, .int .i64 V.s, .bool V.b]) (by kernel_rfl) ⟨H1.out.1, H1.out.2.2.1⟩ (fun hHeld => ?_)
              refine take_v (v := ?_) 0 ⟨some 98, Op.fieldAddr 55 (Operand.tmp 12) 0, _, _, _, none⟩ rfl (fun _ _ _ h => h) ?_ hHeld ?_
              rotate_left
              · (intro W _; go_simp <;> (try with_reducible rfl))
              refine take_v (v := ?_) 1 ⟨some 99, Op.load 9 (Operand.tmp 98), _, _, _, none⟩ rfl (fun _ _ _ h => h) ?_ hHeld ?_
              rotate_left
              · (intro W hSW; (have s0 := hSW.1.cell 0 rfl; have s1 := hSW.1.cell 1 rfl; have s2 := hSW.1.2; have s3 := hSW.2.cell 3 rfl; have s4 := hSW.2.2); go_simp <;> (try with_reducible rfl))
              refine ready_call 2 ⟨some 100, Op.call { callee := Callee.value (Operand.func 50), args := #[Operand.tmp 99], argTypes := #[9] }, _, _, _, none⟩ (by kernel_rfl) rfl (by kernel_rfl) (fun KC hK => ?_)
              go_wp2_with fail
              refine (HK.out _).mono ?_
              rintro r w2 ⟨rfl, rfl⟩
              refine hK.out _ _ hHeld (fun hHeld => ?_)
              clear hK KC
              refine take_v (v := ?_) 3 ⟨some 101, Op.unOp UnOp.not 4 (Operand.tmp 100), _, _, _, none⟩ rfl (fun _ _ _ h => h) ?_ hHeld ?_
              rotate_left
              · (intro W _; go_simp <;> (try with_reducible rfl))
              refine take_v (v := ?_) 4 ⟨some 102, Op.move (Operand.tmp 101), _, _, _, none⟩ rfl (fun _ _ _ h => h) ?_ hHeld ?_
              rotate_left
              · (intro W _; go_simp <;> (try with_reducible rfl))
              refine take_v (v := ?_) 5 ⟨some 103, Op.fieldAddr 55 (Operand.tmp 12) 1, _, _, _, some (4, false)⟩ rfl (fun _ _ _ h => h) ?_ hHeld ?_
              rotate_left
              · (intro W _; go_simp <;> (try with_reducible rfl))
              refine take_v (v := ?_) 6 ⟨some 104, Op.load 9 (Operand.tmp 103), _, _, _, some (4, false)⟩ rfl (fun _ _ _ h => h) ?_ hHeld ?_
              rotate_left
              · (intro W hSW; (have s0 := hSW.1.cell 0 rfl; have s1 := hSW.1.cell 1 rfl; have s2 := hSW.1.2; have s3 := hSW.2.cell 3 rfl; have s4 := hSW.2.2); go_simp <;> (try with_reducible rfl))
              refine ready_call 7 ⟨some 105, Op.call { callee := Callee.value (Operand.func 51), args := #[Operand.tmp 104], argTypes := #[9] }, _, _, _, some (4, false)⟩ (by kernel_rfl) rfl (by kernel_rfl) (fun KC hK => ?_)
              go_wp2_with fail
              refine (HL.out _).mono ?_
              rintro r w2 ⟨rfl, rfl⟩
              refine hK.out _ _ hHeld (fun hHeld => ?_)
              clear hK KC
              refine take_v (v := ?_) 8 ⟨some 106, Op.unOp UnOp.not 4 (Operand.tmp 105), _, _, _, some (4, false)⟩ rfl (fun _ _ _ h => h) ?_ hHeld ?_
              rotate_left
              · (intro W _; go_simp <;> (try with_reducible rfl))
              refine take_v (v := ?_) 9 ⟨some 107, Op.pick (Operand.tmp 102) (Operand.const (Value.bool true)) (Operand.tmp 106), _, _, _, none⟩ rfl (fun _ _ _ h => h) ?_ hHeld ?_
              rotate_left
              · (intro W _; go_simp <;> (try with_reducible rfl))
              refine take_v (v := ?_) 10 ⟨some 108, Op.move (Operand.tmp 107), _, _, _, none⟩ rfl (fun _ _ _ h => h) ?_ hHeld ?_
              rotate_left
              · (intro W _; go_simp <;> (try with_reducible rfl))
              refine take_n 11 ⟨some 109, Op.move (Operand.tmp 11), _, _, _, some (10, false)⟩ rfl (fun _ _ _ h => h) hHeld ?_
              refine take_n 12 ⟨some 110, Op.binOp BinOp.gtr 3 (Operand.tmp 109) (Operand.const (Value.int IntKind.i64 0)) 3, _, _, _, some (10, false)⟩ rfl (fun _ _ _ h => h) hHeld ?_
              refine take_n 13 ⟨some 111, Op.move (Operand.tmp 110), _, _, _, some (10, false)⟩ rfl (fun _ _ _ h => h) hHeld ?_
              refine take_n 14 ⟨some 112, Op.fieldAddr 71 (Operand.tmp 5) 3, _, _, _, some (13, true)⟩ rfl (fun _ _ _ h => h) hHeld ?_
              refine take_n 15 ⟨some 113, Op.load 28 (Operand.tmp 112), _, _, _, some (13, true)⟩ rfl (fun _ _ _ h => h) hHeld ?_
              refine take_n 16 ⟨some 114, Op.move (Operand.tmp 11), _, _, _, some (13, true)⟩ rfl (fun _ _ _ h => h) hHeld ?_
              refine take_n 17 ⟨some 115, Op.binOp BinOp.sub 3 (Operand.tmp 114) (Operand.const (Value.int IntKind.i64 1)) 3, _, _, _, some (13, true)⟩ rfl (fun _ _ _ h => h) hHeld ?_
              refine take_n 18 ⟨some 116, Op.indexAddr 28 (Operand.tmp 113) (Operand.tmp 115), _, _, _, some (13, true)⟩ rfl (fun _ _ _ h => h) hHeld ?_
              refine take_n 19 ⟨some 117, Op.fieldAddr 55 (Operand.tmp 116) 0, _, _, _, some (13, true)⟩ rfl (fun _ _ _ h => h) hHeld ?_
              refine take_n 20 ⟨some 118, Op.load 9 (Operand.tmp 117), _, _, _, some (13, true)⟩ rfl (fun _ _ _ h => h) hHeld ?_
              refine take_n 21 ⟨some 119, Op.fieldAddr 55 (Operand.tmp 12) 0, _, _, _, some (13, true)⟩ rfl (fun _ _ _ h => h) hHeld ?_
              refine take_n 22 ⟨some 120, Op.load 9 (Operand.tmp 119), _, _, _, some (13, true)⟩ rfl (fun _ _ _ h => h) hHeld ?_
              refine take_n 23 ⟨some 121, Op.binOp BinOp.geq 9 (Operand.tmp 118) (Operand.tmp 120) 9, _, _, _, some (13, true)⟩ rfl (fun _ _ _ h => h) hHeld ?_
              refine take_n 24 ⟨some 122, Op.pick (Operand.tmp 111) (Operand.tmp 121) (Operand.const (Value.bool false)), _, _, _, some (10, false)⟩ rfl (fun _ _ _ h => h) hHeld ?_
              refine take_v (v := ?_) 25 ⟨some 123, Op.pick (Operand.tmp 108) (Operand.const (Value.bool true)) (Operand.tmp 122), _, _, _, none⟩ rfl (fun _ _ _ h => h) ?_ hHeld ?_
              rotate_left
              · (intro W _; go_simp <;> (try with_reducible rfl))
              refine wpAnyH_done (by kernel_rfl) ?_ _
              refine NoPanic.normal ?_
              go_wp2
              go_ret
              exact ⟨ret_bool HN.out.symm, H1.out.2.2.2.1⟩
            have HL : Hid (∀ W, Calls Tryz.prog 51 #[.string (V.cl i).f1] W fun r w' => r = .returned (.bool true) ∧ w' = W) := fun W => by have := l1Value_any (V.cl i).f1 W hz.2; rw [e2'] at this; exact this
            by_cases hk0 : i = 0
            · have hk0' : decide ((0 : Int) < (i : Int)) = false := by simp; omega
              have hk0n : decide (0 < i) = false := by simp; omega
              have HY : Hid (cell1 V.cl i) := ⟨⟨e1, e2'⟩, fun h => absurd h (by omega)⟩
              clear HE hk0
              go_upto_region 20 with fail
              refine wp_region_noPanic ?_
              refine wp_region_held_drew (S := fun W => Bx W wr.heap.size [.string (V.cl i).f0, .string (V.cl i).f1] ∧ Bx W (w.heap.size + 1) [.int .i64 V.id, .int .i64 V.st, .slice la V.ln lc, .slice (some ⟨b2, o2, none⟩) V.cn cc, .int .i64 V.e, .int .i64 V.s, .bool V.b]) (by kernel_rfl) ⟨H1.out.1, H1.out.2.2.1⟩ (fun hHeld => ?_)
              refine take_v (v := ?_) 0 ⟨some 98, Op.fieldAddr 55 (Operand.tmp 12) 0, _, _, _, none⟩ rfl (fun _ _ _ h => h) ?_ hHeld ?_
              rotate_left
              · (intro W _; go_simp <;> (try with_reducible rfl))
              refine take_v (v := ?_) 1 ⟨some 99, Op.load 9 (Operand.tmp 98), _, _, _, none⟩ rfl (fun _ _ _ h => h) ?_ hHeld ?_
              rotate_left
              · (intro W hSW; (have s0 := hSW.1.cell 0 rfl; have s1 := hSW.1.cell 1 rfl; have s2 := hSW.1.2; have s3 := hSW.2.cell 3 rfl; have s4 := hSW.2.2); go_simp <;> (try with_reducible rfl))
              refine ready_call 2 ⟨some 100, Op.call { callee := Callee.value (Operand.func 50), args := #[Operand.tmp 99], argTypes := #[9] }, _, _, _, none⟩ (by kernel_rfl) rfl (by kernel_rfl) (fun KC hK => ?_)
              go_wp2_with fail
              refine (HK.out _).mono ?_
              rintro r w2 ⟨rfl, rfl⟩
              refine hK.out _ _ hHeld (fun hHeld => ?_)
              clear hK KC
              refine take_v (v := ?_) 3 ⟨some 101, Op.unOp UnOp.not 4 (Operand.tmp 100), _, _, _, none⟩ rfl (fun _ _ _ h => h) ?_ hHeld ?_
              rotate_left
              · (intro W _; go_simp <;> (try with_reducible rfl))
              refine take_v (v := ?_) 4 ⟨some 102, Op.move (Operand.tmp 101), _, _, _, none⟩ rfl (fun _ _ _ h => h) ?_ hHeld ?_
              rotate_left
              · (intro W _; go_simp <;> (try with_reducible rfl))
              refine take_v (v := ?_) 5 ⟨some 103, Op.fieldAddr 55 (Operand.tmp 12) 1, _, _, _, some (4, false)⟩ rfl (fun _ _ _ h => h) ?_ hHeld ?_
              rotate_left
              · (intro W _; go_simp <;> (try with_reducible rfl))
              refine take_v (v := ?_) 6 ⟨some 104, Op.load 9 (Operand.tmp 103), _, _, _, some (4, false)⟩ rfl (fun _ _ _ h => h) ?_ hHeld ?_
              rotate_left
              · (intro W hSW; (have s0 := hSW.1.cell 0 rfl; have s1 := hSW.1.cell 1 rfl; have s2 := hSW.1.2; have s3 := hSW.2.cell 3 rfl; have s4 := hSW.2.2); go_simp <;> (try with_reducible rfl))
              refine ready_call 7 ⟨some 105, Op.call { callee := Callee.value (Operand.func 51), args := #[Operand.tmp 104], argTypes := #[9] }, _, _, _, some (4, false)⟩ (by kernel_rfl) rfl (by kernel_rfl) (fun KC hK => ?_)
              go_wp2_with fail
              refine (HL.out _).mono ?_
              rintro r w2 ⟨rfl, rfl⟩
              refine hK.out _ _ hHeld (fun hHeld => ?_)
              clear hK KC
              refine take_v (v := ?_) 8 ⟨some 106, Op.unOp UnOp.not 4 (Operand.tmp 105), _, _, _, some (4, false)⟩ rfl (fun _ _ _ h => h) ?_ hHeld ?_
              rotate_left
              · (intro W _; go_simp <;> (try with_reducible rfl))
              refine take_v (v := ?_) 9 ⟨some 107, Op.pick (Operand.tmp 102) (Operand.const (Value.bool true)) (Operand.tmp 106), _, _, _, none⟩ rfl (fun _ _ _ h => h) ?_ hHeld ?_
              rotate_left
              · (intro W _; go_simp <;> (try with_reducible rfl))
              refine take_v (v := ?_) 10 ⟨some 108, Op.move (Operand.tmp 107), _, _, _, none⟩ rfl (fun _ _ _ h => h) ?_ hHeld ?_
              rotate_left
              · (intro W _; go_simp <;> (try with_reducible rfl))
              refine take_v (v := ?_) 11 ⟨some 109, Op.move (Operand.tmp 11), _, _, _, some (10, false)⟩ rfl (fun _ _ _ h => h) ?_ hHeld ?_
              rotate_left
              · (intro W _; go_simp <;> (try with_reducible rfl))
              refine take_v (v := ?_) 12 ⟨some 110, Op.binOp BinOp.gtr 3 (Operand.tmp 109) (Operand.const (Value.int IntKind.i64 0)) 3, _, _, _, some (10, false)⟩ rfl (fun _ _ _ h => h) ?_ hHeld ?_
              rotate_left
              · (intro W _; go_simp <;> (try with_reducible rfl))
              refine take_v (v := ?_) 13 ⟨some 111, Op.move (Operand.tmp 110), _, _, _, some (10, false)⟩ rfl (fun _ _ _ h => h) ?_ hHeld ?_
              rotate_left
              · (intro W _; go_simp <;> (try with_reducible rfl))
              refine take_n 14 ⟨some 112, Op.fieldAddr 71 (Operand.tmp 5) 3, _, _, _, some (13, true)⟩ rfl (fun _ _ _ h => h) hHeld ?_
              refine take_n 15 ⟨some 113, Op.load 28 (Operand.tmp 112), _, _, _, some (13, true)⟩ rfl (fun _ _ _ h => h) hHeld ?_
              refine take_n 16 ⟨some 114, Op.move (Operand.tmp 11), _, _, _, some (13, true)⟩ rfl (fun _ _ _ h => h) hHeld ?_
              refine take_n 17 ⟨some 115, Op.binOp BinOp.sub 3 (Operand.tmp 114) (Operand.const (Value.int IntKind.i64 1)) 3, _, _, _, some (13, true)⟩ rfl (fun _ _ _ h => h) hHeld ?_
              refine take_n 18 ⟨some 116, Op.indexAddr 28 (Operand.tmp 113) (Operand.tmp 115), _, _, _, some (13, true)⟩ rfl (fun _ _ _ h => h) hHeld ?_
              refine take_n 19 ⟨some 117, Op.fieldAddr 55 (Operand.tmp 116) 0, _, _, _, some (13, true)⟩ rfl (fun _ _ _ h => h) hHeld ?_
              refine take_n 20 ⟨some 118, Op.load 9 (Operand.tmp 117), _, _, _, some (13, true)⟩ rfl (fun _ _ _ h => h) hHeld ?_
              refine take_n 21 ⟨some 119, Op.fieldAddr 55 (Operand.tmp 12) 0, _, _, _, some (13, true)⟩ rfl (fun _ _ _ h => h) hHeld ?_
              refine take_n 22 ⟨some 120, Op.load 9 (Operand.tmp 119), _, _, _, some (13, true)⟩ rfl (fun _ _ _ h => h) hHeld ?_
              refine take_n 23 ⟨some 121, Op.binOp BinOp.geq 9 (Operand.tmp 118) (Operand.tmp 120) 9, _, _, _, some (13, true)⟩ rfl (fun _ _ _ h => h) hHeld ?_
              refine take_v (v := ?_) 24 ⟨some 122, Op.pick (Operand.tmp 111) (Operand.tmp 121) (Operand.const (Value.bool false)), _, _, _, some (10, false)⟩ rfl (fun _ _ _ h => h) ?_ hHeld ?_
              rotate_left
              · (intro W _; go_simp <;> (try with_reducible rfl))
              refine take_v (v := ?_) 25 ⟨some 123, Op.pick (Operand.tmp 108) (Operand.const (Value.bool true)) (Operand.tmp 122), _, _, _, none⟩ rfl (fun _ _ _ h => h) ?_ hHeld ?_
              rotate_left
              · (intro W _; go_simp <;> (try with_reducible rfl))
              refine wpAnyH_done (by kernel_rfl) ?_ _
              refine NoPanic.normal ?_
              have b0 := H1.out.2.1.cell 0 rfl
              have b1' := H1.out.2.1.cell 1 rfl
              have b2' := H1.out.2.1.cell 2 rfl
              have b3' := H1.out.2.1.cell 3 rfl
              have bz := H1.out.2.1.2
              have k0 := H1.out.1.cell 0 rfl
              have kz := H1.out.1.2
              go_wp2_with fail
              refine (l5Find_at ra rc (some ⟨b, off, none⟩) tc oa oc S (V.cl i).f0 _ HS.out.2.2.2.1 (HS.out.2.2.1.below H1.out.2.2.2.1 (Nat.le_refl _))).mono ?_
              rintro r w3 ⟨o, f, rfl, hF, hb⟩
              have HF := (show Hid (_ ∨ _) from hF)
              have H3 : Hid (L5H w [.int .i64 S.ep, .slice ra S.rn rc, .slice (some ⟨b, off, none⟩) S.tn tc, .slice oa S.on oc] [.int .i64 V.id, .int .i64 V.st, .slice la V.ln lc, .slice (some ⟨b2, o2, none⟩) V.cn cc, .int .i64 V.e, .int .i64 V.s, .bool V.b] w3 ∧ Below w.heap.size w (w3.alloc (.cells #[.string o.f0, .string o.f1, .int .i64 o.f2, .int .i64 o.f3, .bool o.f4, .int .i64 o.f5] 52)) ∧ L5H w [.int .i64 S.ep, .slice ra S.rn rc, .slice (some ⟨b, off, none⟩) S.tn tc, .slice oa S.on oc] [.int .i64 V.id, .int .i64 V.st, .slice la V.ln lc, .slice (some ⟨b2, o2, none⟩) V.cn cc, .int .i64 V.e, .int .i64 V.s, .bool V.b] (w3.alloc (.cells #[.string o.f0, .string o.f1, .int .i64 o.f2, .int .i64 o.f3, .bool o.f4, .int .i64 o.f5] 52))) := by
                have g : L5H w [.int .i64 S.ep, .slice ra S.rn rc, .slice (some ⟨b, off, none⟩) S.tn tc, .slice oa S.on oc] [.int .i64 V.id, .int .i64 V.st, .slice la V.ln lc, .slice (some ⟨b2, o2, none⟩) V.cn cc, .int .i64 V.e, .int .i64 V.s, .bool V.b] w3 := ⟨H1.out.2.1.next hb, H1.out.2.2.1.next hb, below_next' H1.out.2.2.2.1 hb⟩
                exact ⟨g, below_next' g.2.2 (Go.Joins.below_alloc1 _ _), g.next (Go.Joins.below_alloc1 _ _)⟩
              have HQ9 : Hid (cellsP V.cl i) := H1.out.2.2.2.2.1
              have HO9 : Hid (∀ j, j < i → ownQ S V j) := H1.out.2.2.2.2.2
              clear hF hb H1 b0 b1' b2' b3' bz k0 kz
              have r0 := H3.out.1.2.1.cell 0 rfl
              have rz := H3.out.1.2.1.2
              cases f
              · have HN : Hid (clB (txnV S V k) = false) := by
                  rcases HF.out with ⟨h, _⟩ | ⟨_, h⟩
                  · cases h
                  · exact no_own HM.out hic (fun ⟨q, h1, h2, _⟩ => h q h1 h2)
                go_wp2
                go_ret
                exact ⟨ret_bool HN.out.symm, H3.out.2.1⟩
              · cases e : (o.f5 != V.id)
                · have HW : Hid (ownQ S V i) := by
                    have e' : o.f5 = V.id := by simpa using e
                    rcases HF.out with ⟨_, q, h1, h2, h3⟩ | ⟨h, _⟩
                    · exact ⟨q, h1, h2, by rw [← h3]; exact e'⟩
                    · cases h
                  clear HF
                  go_wp2
                  go_roundw
                  case rel => exact ⟨i + 1, by omega, by go_num, upto_succ HQ9.out HY.out, upto_succ HO9.out HW.out, H3.out.2.2⟩
                  case measure => simp [intOf]; omega
                · have HN : Hid (clB (txnV S V k) = false) := by
                    have e' : o.f5 ≠ V.id := by simpa using e
                    rcases HF.out with ⟨_, q, h1, h2, h3⟩ | ⟨h, _⟩
                    · refine no_own HM.out hic (fun ⟨q', g1, g2, g3⟩ => ?_)
                      have : q' = q := riseK_ne HS.out.2.2.2.2 g1 h1 (g2.trans h2.symm)
                      subst this
                      exact e' (by rw [h3]; exact g3)
                    · cases h
                  clear HF
                  go_wp2
                  go_ret
                  exact ⟨ret_bool HN.out.symm, H3.out.2.1⟩
            · obtain ⟨q, hq⟩ : ∃ q, q = i - 1 := ⟨_, rfl⟩
              have hwq : IntKind.i64.wrap ((i : Int) - 1) = (q : Int) := by rw [IntKind.wrap_i64]; omega
              have HQ : Hid (i = q + 1) := by show i = q + 1; omega
              have hq0 : (0 : Int) < (i : Int) := by omega
              have hq0n : decide (0 < i) = true := by simp; omega
              have hqn : (q : Int) < (V.cn : Int) := by omega
              have HQ1 := (show Hid _ from HE.out q (by omega))
              clear HE hk0 hq
              have HC : Hid (cell1 V.cl i ↔ Op.bytesLess (V.cl q).f0.toList (V.cl i).f0.toList = true) := by
                show _ ↔ _
                have : i - 1 = q := by have := HQ.out; omega
                constructor
                · intro g; have := g.2 (by omega); rwa [‹i - 1 = q›] at this
                · intro g; exact ⟨⟨e1, e2'⟩, fun _ => by rw [‹i - 1 = q›]; exact g⟩
              cases e3' : Op.bytesLess (V.cl q).f0.toList (V.cl i).f0.toList
              · have HN : Hid (clB (txnV S V k) = false) := no_cl hic (fun g => by rw [HC.out.1 g] at e3'; cases e3')
                go_upto_region 20 with fail
                refine wp_region_noPanic ?_
                refine wp_region_held_drew (S := fun W => Bx W wr.heap.size [.string (V.cl i).f0, .string (V.cl i).f1] ∧ Bx W (w.heap.size + 1) [.int .i64 V.id, .int .i64 V.st, .slice la V.ln lc, .slice (some ⟨b2, o2, none⟩) V.cn cc, .int .i64 V.e, .int .i64 V.s, .bool V.b] ∧ W.cell? ⟨b2, o2 + q * 2, none⟩ = some (.string (V.cl q).f0)) (by kernel_rfl) ⟨H1.out.1, H1.out.2.2.1, HQ1.out⟩ (fun hHeld => ?_)
                refine take_v (v := ?_) 0 ⟨some 98, Op.fieldAddr 55 (Operand.tmp 12) 0, _, _, _, none⟩ rfl (fun _ _ _ h => h) ?_ hHeld ?_
                rotate_left
                · (intro W _; go_simp <;> (try with_reducible rfl))
                refine take_v (v := ?_) 1 ⟨some 99, Op.load 9 (Operand.tmp 98), _, _, _, none⟩ rfl (fun _ _ _ h => h) ?_ hHeld ?_
                rotate_left
                · (intro W hSW; (have s0 := hSW.1.cell 0 rfl; have s1 := hSW.1.cell 1 rfl; have s2 := hSW.1.2; have s3 := hSW.2.1.cell 3 rfl; have s4 := hSW.2.1.2; have s5 := hSW.2.2); go_simp <;> (try with_reducible rfl))
                refine ready_call 2 ⟨some 100, Op.call { callee := Callee.value (Operand.func 50), args := #[Operand.tmp 99], argTypes := #[9] }, _, _, _, none⟩ (by kernel_rfl) rfl (by kernel_rfl) (fun KC hK => ?_)
                go_wp2_with fail
                refine (HK.out _).mono ?_
                rintro r w2 ⟨rfl, rfl⟩
                refine hK.out _ _ hHeld (fun hHeld => ?_)
                clear hK KC
                refine take_v (v := ?_) 3 ⟨some 101, Op.unOp UnOp.not 4 (Operand.tmp 100), _, _, _, none⟩ rfl (fun _ _ _ h => h) ?_ hHeld ?_
                rotate_left
                · (intro W _; go_simp <;> (try with_reducible rfl))
                refine take_v (v := ?_) 4 ⟨some 102, Op.move (Operand.tmp 101), _, _, _, none⟩ rfl (fun _ _ _ h => h) ?_ hHeld ?_
                rotate_left
                · (intro W _; go_simp <;> (try with_reducible rfl))
                refine take_v (v := ?_) 5 ⟨some 103, Op.fieldAddr 55 (Operand.tmp 12) 1, _, _, _, some (4, false)⟩ rfl (fun _ _ _ h => h) ?_ hHeld ?_
                rotate_left
                · (intro W _; go_simp <;> (try with_reducible rfl))
                refine take_v (v := ?_) 6 ⟨some 104, Op.load 9 (Operand.tmp 103), _, _, _, some (4, false)⟩ rfl (fun _ _ _ h => h) ?_ hHeld ?_
                rotate_left
                · (intro W hSW; (have s0 := hSW.1.cell 0 rfl; have s1 := hSW.1.cell 1 rfl; have s2 := hSW.1.2; have s3 := hSW.2.1.cell 3 rfl; have s4 := hSW.2.1.2; have s5 := hSW.2.2); go_simp <;> (try with_reducible rfl))
                refine ready_call 7 ⟨some 105, Op.call { callee := Callee.value (Operand.func 51), args := #[Operand.tmp 104], argTypes := #[9] }, _, _, _, some (4, false)⟩ (by kernel_rfl) rfl (by kernel_rfl) (fun KC hK => ?_)
                go_wp2_with fail
                refine (HL.out _).mono ?_
                rintro r w2 ⟨rfl, rfl⟩
                refine hK.out _ _ hHeld (fun hHeld => ?_)
                clear hK KC
                refine take_v (v := ?_) 8 ⟨some 106, Op.unOp UnOp.not 4 (Operand.tmp 105), _, _, _, some (4, false)⟩ rfl (fun _ _ _ h => h) ?_ hHeld ?_
                rotate_left
                · (intro W _; go_simp <;> (try with_reducible rfl))
                refine take_v (v := ?_) 9 ⟨some 107, Op.pick (Operand.tmp 102) (Operand.const (Value.bool true)) (Operand.tmp 106), _, _, _, none⟩ rfl (fun _ _ _ h => h) ?_ hHeld ?_
                rotate_left
                · (intro W _; go_simp <;> (try with_reducible rfl))
                refine take_v (v := ?_) 10 ⟨some 108, Op.move (Operand.tmp 107), _, _, _, none⟩ rfl (fun _ _ _ h => h) ?_ hHeld ?_
                rotate_left
                · (intro W _; go_simp <;> (try with_reducible rfl))
                refine take_v (v := ?_) 11 ⟨some 109, Op.move (Operand.tmp 11), _, _, _, some (10, false)⟩ rfl (fun _ _ _ h => h) ?_ hHeld ?_
                rotate_left
                · (intro W _; go_simp <;> (try with_reducible rfl))
                refine take_v (v := ?_) 12 ⟨some 110, Op.binOp BinOp.gtr 3 (Operand.tmp 109) (Operand.const (Value.int IntKind.i64 0)) 3, _, _, _, some (10, false)⟩ rfl (fun _ _ _ h => h) ?_ hHeld ?_
                rotate_left
                · (intro W _; go_simp <;> (try with_reducible rfl))
                refine take_v (v := ?_) 13 ⟨some 111, Op.move (Operand.tmp 110), _, _, _, some (10, false)⟩ rfl (fun _ _ _ h => h) ?_ hHeld ?_
                rotate_left
                · (intro W _; go_simp <;> (try with_reducible rfl))
                refine take_v (v := ?_) 14 ⟨some 112, Op.fieldAddr 71 (Operand.tmp 5) 3, _, _, _, some (13, true)⟩ rfl (fun _ _ _ h => h) ?_ hHeld ?_
                rotate_left
                · (intro W _; go_simp <;> (try with_reducible rfl))
                refine take_v (v := ?_) 15 ⟨some 113, Op.load 28 (Operand.tmp 112), _, _, _, some (13, true)⟩ rfl (fun _ _ _ h => h) ?_ hHeld ?_
                rotate_left
                · (intro W hSW; (have s0 := hSW.1.cell 0 rfl; have s1 := hSW.1.cell 1 rfl; have s2 := hSW.1.2; have s3 := hSW.2.1.cell 3 rfl; have s4 := hSW.2.1.2; have s5 := hSW.2.2); go_simp <;> (try with_reducible rfl))
                refine take_v (v := ?_) 16 ⟨some 114, Op.move (Operand.tmp 11), _, _, _, some (13, true)⟩ rfl (fun _ _ _ h => h) ?_ hHeld ?_
                rotate_left
                · (intro W _; go_simp <;> (try with_reducible rfl))
                refine take_v (v := ?_) 17 ⟨some 115, Op.binOp BinOp.sub 3 (Operand.tmp 114) (Operand.const (Value.int IntKind.i64 1)) 3, _, _, _, some (13, true)⟩ rfl (fun _ _ _ h => h) ?_ hHeld ?_
                rotate_left
                · (intro W _; go_simp <;> (try with_reducible rfl))
                refine take_v (v := ?_) 18 ⟨some 116, Op.indexAddr 28 (Operand.tmp 113) (Operand.tmp 115), _, _, _, some (13, true)⟩ rfl (fun _ _ _ h => h) ?_ hHeld ?_
                rotate_left
                · (intro W _; go_simp <;> (try with_reducible rfl))
                refine take_v (v := ?_) 19 ⟨some 117, Op.fieldAddr 55 (Operand.tmp 116) 0, _, _, _, some (13, true)⟩ rfl (fun _ _ _ h => h) ?_ hHeld ?_
                rotate_left
                · (intro W _; go_simp <;> (try with_reducible rfl))
                refine take_v (v := ?_) 20 ⟨some 118, Op.load 9 (Operand.tmp 117), _, _, _, some (13, true)⟩ rfl (fun _ _ _ h => h) ?_ hHeld ?_
                rotate_left
                · (intro W hSW; (have s0 := hSW.1.cell 0 rfl; have s1 := hSW.1.cell 1 rfl; have s2 := hSW.1.2; have s3 := hSW.2.1.cell 3 rfl; have s4 := hSW.2.1.2; have s5 := hSW.2.2); go_simp <;> (try with_reducible rfl))
                refine take_v (v := ?_) 21 ⟨some 119, Op.fieldAddr 55 (Operand.tmp 12) 0, _, _, _, some (13, true)⟩ rfl (fun _ _ _ h => h) ?_ hHeld ?_
                rotate_left
                · (intro W _; go_simp <;> (try with_reducible rfl))
                refine take_v (v := ?_) 22 ⟨some 120, Op.load 9 (Operand.tmp 119), _, _, _, some (13, true)⟩ rfl (fun _ _ _ h => h) ?_ hHeld ?_
                rotate_left
                · (intro W hSW; (have s0 := hSW.1.cell 0 rfl; have s1 := hSW.1.cell 1 rfl; have s2 := hSW.1.2; have s3 := hSW.2.1.cell 3 rfl; have s4 := hSW.2.1.2; have s5 := hSW.2.2); go_simp <;> (try with_reducible rfl))
                refine take_v (v := ?_) 23 ⟨some 121, Op.binOp BinOp.geq 9 (Operand.tmp 118) (Operand.tmp 120) 9, _, _, _, some (13, true)⟩ rfl (fun _ _ _ h => h) ?_ hHeld ?_
                rotate_left
                · (intro W _; go_simp <;> (try with_reducible rfl))
                refine take_v (v := ?_) 24 ⟨some 122, Op.pick (Operand.tmp 111) (Operand.tmp 121) (Operand.const (Value.bool false)), _, _, _, some (10, false)⟩ rfl (fun _ _ _ h => h) ?_ hHeld ?_
                rotate_left
                · (intro W _; go_simp <;> (try with_reducible rfl))
                refine take_v (v := ?_) 25 ⟨some 123, Op.pick (Operand.tmp 108) (Operand.const (Value.bool true)) (Operand.tmp 122), _, _, _, none⟩ rfl (fun _ _ _ h => h) ?_ hHeld ?_
                rotate_left
                · (intro W _; go_simp <;> (try with_reducible rfl))
                refine wpAnyH_done (by kernel_rfl) ?_ _
                refine NoPanic.normal ?_
                go_wp2
                go_ret
                exact ⟨ret_bool HN.out.symm, H1.out.2.2.2.1⟩
              · have HY : Hid (cell1 V.cl i) := HC.out.2 e3'
                go_upto_region 20 with fail
                refine wp_region_noPanic ?_
                refine wp_region_held_drew (S := fun W => Bx W wr.heap.size [.string (V.cl i).f0, .string (V.cl i).f1] ∧ Bx W (w.heap.size + 1) [.int .i64 V.id, .int .i64 V.st, .slice la V.ln lc, .slice (some ⟨b2, o2, none⟩) V.cn cc, .int .i64 V.e, .int .i64 V.s, .bool V.b] ∧ W.cell? ⟨b2, o2 + q * 2, none⟩ = some (.string (V.cl q).f0)) (by kernel_rfl) ⟨H1.out.1, H1.out.2.2.1, HQ1.out⟩ (fun hHeld => ?_)
                refine take_v (v := ?_) 0 ⟨some 98, Op.fieldAddr 55 (Operand.tmp 12) 0, _, _, _, none⟩ rfl (fun _ _ _ h => h) ?_ hHeld ?_
                rotate_left
                · (intro W _; go_simp <;> (try with_reducible rfl))
                refine take_v (v := ?_) 1 ⟨some 99, Op.load 9 (Operand.tmp 98), _, _, _, none⟩ rfl (fun _ _ _ h => h) ?_ hHeld ?_
                rotate_left
                · (intro W hSW; (have s0 := hSW.1.cell 0 rfl; have s1 := hSW.1.cell 1 rfl; have s2 := hSW.1.2; have s3 := hSW.2.1.cell 3 rfl; have s4 := hSW.2.1.2; have s5 := hSW.2.2); go_simp <;> (try with_reducible rfl))
                refine ready_call 2 ⟨some 100, Op.call { callee := Callee.value (Operand.func 50), args := #[Operand.tmp 99], argTypes := #[9] }, _, _, _, none⟩ (by kernel_rfl) rfl (by kernel_rfl) (fun KC hK => ?_)
                go_wp2_with fail
                refine (HK.out _).mono ?_
                rintro r w2 ⟨rfl, rfl⟩
                refine hK.out _ _ hHeld (fun hHeld => ?_)
                clear hK KC
                refine take_v (v := ?_) 3 ⟨some 101, Op.unOp UnOp.not 4 (Operand.tmp 100), _, _, _, none⟩ rfl (fun _ _ _ h => h) ?_ hHeld ?_
                rotate_left
                · (intro W _; go_simp <;> (try with_reducible rfl))
                refine take_v (v := ?_) 4 ⟨some 102, Op.move (Operand.tmp 101), _, _, _, none⟩ rfl (fun _ _ _ h => h) ?_ hHeld ?_
                rotate_left
                · (intro W _; go_simp <;> (try with_reducible rfl))
                refine take_v (v := ?_) 5 ⟨some 103, Op.fieldAddr 55 (Operand.tmp 12) 1, _, _, _, some (4, false)⟩ rfl (fun _ _ _ h => h) ?_ hHeld ?_
                rotate_left
                · (intro W _; go_simp <;> (try with_reducible rfl))
                refine take_v (v := ?_) 6 ⟨some 104, Op.load 9 (Operand.tmp 103), _, _, _, some (4, false)⟩ rfl (fun _ _ _ h => h) ?_ hHeld ?_
                rotate_left
                · (intro W hSW; (have s0 := hSW.1.cell 0 rfl; have s1 := hSW.1.cell 1 rfl; have s2 := hSW.1.2; have s3 := hSW.2.1.cell 3 rfl; have s4 := hSW.2.1.2; have s5 := hSW.2.2); go_simp <;> (try with_reducible rfl))
                refine ready_call 7 ⟨some 105, Op.call { callee := Callee.value (Operand.func 51), args := #[Operand.tmp 104], argTypes := #[9] }, _, _, _, some (4, false)⟩ (by kernel_rfl) rfl (by kernel_rfl) (fun KC hK => ?_)
                go_wp2_with fail
                refine (HL.out _).mono ?_
                rintro r w2 ⟨rfl, rfl⟩
                refine hK.out _ _ hHeld (fun hHeld => ?_)
                clear hK KC
                refine take_v (v := ?_) 8 ⟨some 106, Op.unOp UnOp.not 4 (Operand.tmp 105), _, _, _, some (4, false)⟩ rfl (fun _ _ _ h => h) ?_ hHeld ?_
                rotate_left
                · (intro W _; go_simp <;> (try with_reducible rfl))
                refine take_v (v := ?_) 9 ⟨some 107, Op.pick (Operand.tmp 102) (Operand.const (Value.bool true)) (Operand.tmp 106), _, _, _, none⟩ rfl (fun _ _ _ h => h) ?_ hHeld ?_
                rotate_left
                · (intro W _; go_simp <;> (try with_reducible rfl))
                refine take_v (v := ?_) 10 ⟨some 108, Op.move (Operand.tmp 107), _, _, _, none⟩ rfl (fun _ _ _ h => h) ?_ hHeld ?_
                rotate_left
                · (intro W _; go_simp <;> (try with_reducible rfl))
                refine take_v (v := ?_) 11 ⟨some 109, Op.move (Operand.tmp 11), _, _, _, some (10, false)⟩ rfl (fun _ _ _ h => h) ?_ hHeld ?_
                rotate_left
                · (intro W _; go_simp <;> (try with_reducible rfl))
                refine take_v (v := ?_) 12 ⟨some 110, Op.binOp BinOp.gtr 3 (Operand.tmp 109) (Operand.const (Value.int IntKind.i64 0)) 3, _, _, _, some (10, false)⟩ rfl (fun _ _ _ h => h) ?_ hHeld ?_
                rotate_left
                · (intro W _; go_simp <;> (try with_reducible rfl))
                refine take_v (v := ?_) 13 ⟨some 111, Op.move (Operand.tmp 110), _, _, _, some (10, false)⟩ rfl (fun _ _ _ h => h) ?_ hHeld ?_
                rotate_left
                · (intro W _; go_simp <;> (try with_reducible rfl))
                refine take_v (v := ?_) 14 ⟨some 112, Op.fieldAddr 71 (Operand.tmp 5) 3, _, _, _, some (13, true)⟩ rfl (fun _ _ _ h => h) ?_ hHeld ?_
                rotate_left
                · (intro W _; go_simp <;> (try with_reducible rfl))
                refine take_v (v := ?_) 15 ⟨some 113, Op.load 28 (Operand.tmp 112), _, _, _, some (13, true)⟩ rfl (fun _ _ _ h => h) ?_ hHeld ?_
                rotate_left
                · (intro W hSW; (have s0 := hSW.1.cell 0 rfl; have s1 := hSW.1.cell 1 rfl; have s2 := hSW.1.2; have s3 := hSW.2.1.cell 3 rfl; have s4 := hSW.2.1.2; have s5 := hSW.2.2); go_simp <;> (try with_reducible rfl))
                refine take_v (v := ?_) 16 ⟨some 114, Op.move (Operand.tmp 11), _, _, _, some (13, true)⟩ rfl (fun _ _ _ h => h) ?_ hHeld ?_
                rotate_left
                · (intro W _; go_simp <;> (try with_reducible rfl))
                refine take_v (v := ?_) 17 ⟨some 115, Op.binOp BinOp.sub 3 (Operand.tmp 114) (Operand.const (Value.int IntKind.i64 1)) 3, _, _, _, some (13, true)⟩ rfl (fun _ _ _ h => h) ?_ hHeld ?_
                rotate_left
                · (intro W _; go_simp <;> (try with_reducible rfl))
                refine take_v (v := ?_) 18 ⟨some 116, Op.indexAddr 28 (Operand.tmp 113) (Operand.tmp 115), _, _, _, some (13, true)⟩ rfl (fun _ _ _ h => h) ?_ hHeld ?_
                rotate_left
                · (intro W _; go_simp <;> (try with_reducible rfl))
                refine take_v (v := ?_) 19 ⟨some 117, Op.fieldAddr 55 (Operand.tmp 116) 0, _, _, _, some (13, true)⟩ rfl (fun _ _ _ h => h) ?_ hHeld ?_
                rotate_left
                · (intro W _; go_simp <;> (try with_reducible rfl))
                refine take_v (v := ?_) 20 ⟨some 118, Op.load 9 (Operand.tmp 117), _, _, _, some (13, true)⟩ rfl (fun _ _ _ h => h) ?_ hHeld ?_
                rotate_left
                · (intro W hSW; (have s0 := hSW.1.cell 0 rfl; have s1 := hSW.1.cell 1 rfl; have s2 := hSW.1.2; have s3 := hSW.2.1.cell 3 rfl; have s4 := hSW.2.1.2; have s5 := hSW.2.2); go_simp <;> (try with_reducible rfl))
                refine take_v (v := ?_) 21 ⟨some 119, Op.fieldAddr 55 (Operand.tmp 12) 0, _, _, _, some (13, true)⟩ rfl (fun _ _ _ h => h) ?_ hHeld ?_
                rotate_left
                · (intro W _; go_simp <;> (try with_reducible rfl))
                refine take_v (v := ?_) 22 ⟨some 120, Op.load 9 (Operand.tmp 119), _, _, _, some (13, true)⟩ rfl (fun _ _ _ h => h) ?_ hHeld ?_
                rotate_left
                · (intro W hSW; (have s0 := hSW.1.cell 0 rfl; have s1 := hSW.1.cell 1 rfl; have s2 := hSW.1.2; have s3 := hSW.2.1.cell 3 rfl; have s4 := hSW.2.1.2; have s5 := hSW.2.2); go_simp <;> (try with_reducible rfl))
                refine take_v (v := ?_) 23 ⟨some 121, Op.binOp BinOp.geq 9 (Operand.tmp 118) (Operand.tmp 120) 9, _, _, _, some (13, true)⟩ rfl (fun _ _ _ h => h) ?_ hHeld ?_
                rotate_left
                · (intro W _; go_simp <;> (try with_reducible rfl))
                refine take_v (v := ?_) 24 ⟨some 122, Op.pick (Operand.tmp 111) (Operand.tmp 121) (Operand.const (Value.bool false)), _, _, _, some (10, false)⟩ rfl (fun _ _ _ h => h) ?_ hHeld ?_
                rotate_left
                · (intro W _; go_simp <;> (try with_reducible rfl))
                refine take_v (v := ?_) 25 ⟨some 123, Op.pick (Operand.tmp 108) (Operand.const (Value.bool true)) (Operand.tmp 122), _, _, _, none⟩ rfl (fun _ _ _ h => h) ?_ hHeld ?_
                rotate_left
                · (intro W _; go_simp <;> (try with_reducible rfl))
                refine wpAnyH_done (by kernel_rfl) ?_ _
                refine NoPanic.normal ?_
                clear HQ1 hwq
                have b0 := H1.out.2.1.cell 0 rfl
                have b1' := H1.out.2.1.cell 1 rfl
                have b2' := H1.out.2.1.cell 2 rfl
                have b3' := H1.out.2.1.cell 3 rfl
                have bz := H1.out.2.1.2
                have k0 := H1.out.1.cell 0 rfl
                have kz := H1.out.1.2
                go_wp2_with fail
                refine (l5Find_at ra rc (some ⟨b, off, none⟩) tc oa oc S (V.cl i).f0 _ HS.out.2.2.2.1 (HS.out.2.2.1.below H1.out.2.2.2.1 (Nat.le_refl _))).mono ?_
                rintro r w3 ⟨o, f, rfl, hF, hb⟩
                have HF := (show Hid (_ ∨ _) from hF)
                have H3 : Hid (L5H w [.int .i64 S.ep, .slice ra S.rn rc, .slice (some ⟨b, off, none⟩) S.tn tc, .slice oa S.on oc] [.int .i64 V.id, .int .i64 V.st, .slice la V.ln lc, .slice (some ⟨b2, o2, none⟩) V.cn cc, .int .i64 V.e, .int .i64 V.s, .bool V.b] w3 ∧ Below w.heap.size w (w3.alloc (.cells #[.string o.f0, .string o.f1, .int .i64 o.f2, .int .i64 o.f3, .bool o.f4, .int .i64 o.f5] 52)) ∧ L5H w [.int .i64 S.ep, .slice ra S.rn rc, .slice (some ⟨b, off, none⟩) S.tn tc, .slice oa S.on oc] [.int .i64 V.id, .int .i64 V.st, .slice la V.ln lc, .slice (some ⟨b2, o2, none⟩) V.cn cc, .int .i64 V.e, .int .i64 V.s, .bool V.b] (w3.alloc (.cells #[.string o.f0, .string o.f1, .int .i64 o.f2, .int .i64 o.f3, .bool o.f4, .int .i64 o.f5] 52))) := by
                  have g : L5H w [.int .i64 S.ep, .slice ra S.rn rc, .slice (some ⟨b, off, none⟩) S.tn tc, .slice oa S.on oc] [.int .i64 V.id, .int .i64 V.st, .slice la V.ln lc, .slice (some ⟨b2, o2, none⟩) V.cn cc, .int .i64 V.e, .int .i64 V.s, .bool V.b] w3 := ⟨H1.out.2.1.next hb, H1.out.2.2.1.next hb, below_next' H1.out.2.2.2.1 hb⟩
                  exact ⟨g, below_next' g.2.2 (Go.Joins.below_alloc1 _ _), g.next (Go.Joins.below_alloc1 _ _)⟩
                have HQ9 : Hid (cellsP V.cl i) := H1.out.2.2.2.2.1
                have HO9 : Hid (∀ j, j < i → ownQ S V j) := H1.out.2.2.2.2.2
                clear hF hb H1 b0 b1' b2' b3' bz k0 kz
                have r0 := H3.out.1.2.1.cell 0 rfl
                have rz := H3.out.1.2.1.2
                cases f
                · have HN : Hid (clB (txnV S V k) = false) := by
                    rcases HF.out with ⟨h, _⟩ | ⟨_, h⟩
                    · cases h
                    · exact no_own HM.out hic (fun ⟨q, h1, h2, _⟩ => h q h1 h2)
                  go_wp2
                  go_ret
                  exact ⟨ret_bool HN.out.symm, H3.out.2.1⟩
                · cases e : (o.f5 != V.id)
                  · have HW : Hid (ownQ S V i) := by
                      have e' : o.f5 = V.id := by simpa using e
                      rcases HF.out with ⟨_, q, h1, h2, h3⟩ | ⟨h, _⟩
                      · exact ⟨q, h1, h2, by rw [← h3]; exact e'⟩
                      · cases h
                    clear HF
                    go_wp2
                    go_roundw
                    case rel => exact ⟨i + 1, by omega, by go_num, upto_succ HQ9.out HY.out, upto_succ HO9.out HW.out, H3.out.2.2⟩
                    case measure => simp [intOf]; omega
                  · have HN : Hid (clB (txnV S V k) = false) := by
                      have e' : o.f5 ≠ V.id := by simpa using e
                      rcases HF.out with ⟨_, q, h1, h2, h3⟩ | ⟨h, _⟩
                      · refine no_own HM.out hic (fun ⟨q', g1, g2, g3⟩ => ?_)
                        have : q' = q := riseK_ne HS.out.2.2.2.2 g1 h1 (g2.trans h2.symm)
                        subst this
                        exact e' (by rw [h3]; exact g3)
                      · cases h
                    clear HF
                    go_wp2
                    go_ret
                    exact ⟨ret_bool HN.out.symm, H3.out.2.1⟩
          · have hin : i = V.cn := by omega
            have hic' : ¬ (i : Int) < (V.cn : Int) := by omega
            have HCL : Hid (cellsP V.cl V.cn) := by rw [hin] at hall; exact hall
            have HOW : Hid (ownsP S V) := by rw [hin] at hown; exact hown
            have HX1 : Hid (L5H w [.int .i64 S.ep, .slice ra S.rn rc, .slice (some ⟨b, off, none⟩) S.tn tc, .slice oa S.on oc] [.int .i64 V.id, .int .i64 V.st, .slice la V.ln lc, .slice ca V.cn cc, .int .i64 V.e, .int .i64 V.s, .bool V.b] wr) := hL
            have t1 := hL.2.1.cell 1 rfl
            have t4 := hL.2.1.cell 4 rfl
            have t5 := hL.2.1.cell 5 rfl
            have t6 := hL.2.1.cell 6 rfl
            have tz := hL.2.1.2
            have HT : Hid (clB (txnV S V k) = tidOk V.st V.e V.s V.b) := txn_is HID.out e0 HLO.out HCL.out (fun h => HOW.out)
            clear hall hown hL hin
            have HT2 : Hid (clB (txnV S V k) = tidE V.e V.s V.b 0 0 false) := by show _ = _; rw [HT.out, tidOk, if_neg (by rw [HB.out]; simp)]
            have r0 := run_eqTid V.e V.s V.b 0 0 false
            go_wp2
            go_ret
            exact ⟨ret_bool HT2.out.symm, HX1.out.2.2⟩

      · -- false true false
        have HM : Hid (mayB V.st = true) := by show _ = _; rw [mayB, e2, e3]; rfl
        have HB : Hid (hasB V.st = true) := by show _ = _; rw [hasB, e3, e4]; rfl
        go_wp2
        clear v1 v3 vz
        go_loopw [93] (fun x wr => ∃ i : Nat, i ≤ V.cn ∧ x = .int .i64 i ∧ cellsP V.cl i ∧ (∀ j, j < i → ownQ S V j) ∧ L5H w [.int .i64 S.ep, .slice ra S.rn rc, .slice (some ⟨b, off, none⟩) S.tn tc, .slice oa S.on oc] [.int .i64 V.id, .int .i64 V.st, .slice la V.ln lc, .slice ca V.cn cc, .int .i64 V.e, .int .i64 V.s, .bool V.b] wr) (fun x _ => V.cn - (intOf x).toNat)
        case atStart => exact ⟨0, Nat.zero_le _, rfl, fun j hj => absurd hj (by omega), fun j hj => absurd hj (by omega), HX1.out⟩
        case round =>
          obtain ⟨i, hi, rfl, hall, hown, hL⟩ := hrel
          clear HX1
          by_cases hic : i < V.cn
          · rcases HS.out.2.1.below hL.2.2 (Nat.le_refl _) with h | ⟨b2, o2, rfl, hbs2, hE⟩
            · omega
            have hic' : (i : Int) < (V.cn : Int) := by omega
            obtain ⟨c0, c1⟩ := cell_cells hE hic
            have hd : Below wr.heap.size wr (wr.alloc (.cells #[.string (V.cl i).f0, .string (V.cl i).f1] 55)).drew := (Go.Joins.below_alloc1 _ _).drew
            have H1 : Hid (Bx (wr.alloc (.cells #[.string (V.cl i).f0, .string (V.cl i).f1] 55)).drew wr.heap.size [.string (V.cl i).f0, .string (V.cl i).f1] ∧ Bx (wr.alloc (.cells #[.string (V.cl i).f0, .string (V.cl i).f1] 55)).drew w.heap.size [.int .i64 S.ep, .slice ra S.rn rc, .slice (some ⟨b, off, none⟩) S.tn tc, .slice oa S.on oc] ∧ Bx (wr.alloc (.cells #[.string (V.cl i).f0, .string (V.cl i).f1] 55)).drew (w.heap.size + 1) [.int .i64 V.id, .int .i64 V.st, .slice la V.ln lc, .slice (some ⟨b2, o2, none⟩) V.cn cc, .int .i64 V.e, .int .i64 V.s, .bool V.b] ∧ Below w.heap.size w (wr.alloc (.cells #[.string (V.cl i).f0, .string (V.cl i).f1] 55)).drew ∧ cellsP V.cl i ∧ (∀ j, j < i → ownQ S V j)) := ⟨(Bx.new wr [.string (V.cl i).f0, .string (V.cl i).f1] 55).next (Below.refl _ _).drew, hL.1.next hd, hL.2.1.next hd, below_next' hL.2.2 hd, hall, hown⟩
            have HE : Hid (∀ q, q < V.cn → (wr.alloc (.cells #[.string (V.cl i).f0, .string (V.cl i).f1] 55)).drew.cell? ⟨b2, o2 + q * 2, none⟩ = some (.string (V.cl q).f0)) := fun q hq => (hd.cell (p := ⟨b2, o2 + q * 2, none⟩) hbs2).trans (cell_cells hE hq).1
            clear hall hown hL hE hd
            have hz := HS.out.1.2.2.2 i hic
            cases e1 : keyOk (V.cl i).f0
            · have HK : Hid (∀ W, Calls Tryz.prog 50 #[.string (V.cl i).f0] W fun r w' => r = .returned (.bool false) ∧ w' = W) := fun W => by have := l1Key_any (V.cl i).f0 W hz.1; rw [e1] at this; exact this
              have HN : Hid (clB (txnV S V k) = false) := no_cl hic (fun g => by rw [g.1.1] at e1; cases e1)
              clear HE
              go_upto_region 20 with fail
              refine wp_region_noPanic ?_
              refine wp_region_held_drew (S := fun W => Bx W wr.heap.size [.string (V.cl i).f0, .string (V.cl i).f1] ∧ Bx W (w.heap.size + 1) [.int .i64 V.id, .int .i64 V.st, .slice la V.ln lc, .slice (some ⟨b2, o2, none⟩) V.cn cc, .int .i64 V.e, .int .i64 V.s, .bool V.b]) (by kernel_rfl) ⟨H1.out.1, H1.out.2.2.1⟩ (fun hHeld => ?_)
              refine take_v (v := ?_) 0 ⟨some 98, Op.fieldAddr 55 (Operand.tmp 12) 0, _, _, _, none⟩ rfl (fun _ _ _ h => h) ?_ hHeld ?_
              rotate_left
              · (intro W _; go_simp <;> (try with_reducible rfl))
              refine take_v (v := ?_) 1 ⟨some 99, Op.load 9 (Operand.tmp 98), _, _, _, none⟩ rfl (fun _ _ _ h => h) ?_ hHeld ?_
              rotate_left
              · (intro W hSW; (have s0 := hSW.1.cell 0 rfl; have s1 := hSW.1.cell 1 rfl; have s2 := hSW.1.2; have s3 := hSW.2.cell 3 rfl; have s4 := hSW.2.2); go_simp <;> (try with_reducible rfl))
              refine ready_call 2 ⟨some 100, Op.call { callee := Callee.value (Operand.func 50), args := #[Operand.tmp 99], argTypes := #[9] }, _, _, _, none⟩ (by kernel_rfl) rfl (by kernel_rfl) (fun KC hK => ?_)
              go_wp2_with fail
              refine (HK.out _).mono ?_
              rintro r w2 ⟨rfl, rfl⟩
              refine hK.out _ _ hHeld (fun hHeld => ?_)
              clear hK KC
              refine take_v (v := ?_) 3 ⟨some 101, Op.unOp UnOp.not 4 (Operand.tmp 100), _, _, _, none⟩ rfl (fun _ _ _ h => h) ?_ hHeld ?_
              rotate_left
              · (intro W _; go_simp <;> (try with_reducible rfl))
              refine take_v (v := ?_) 4 ⟨some 102, Op.move (Operand.tmp 101), _, _, _, none⟩ rfl (fun _ _ _ h => h) ?_ hHeld ?_
              rotate_left
              · (intro W _; go_simp <;> (try with_reducible rfl))
              refine take_n 5 ⟨some 103, Op.fieldAddr 55 (Operand.tmp 12) 1, _, _, _, some (4, false)⟩ rfl (fun _ _ _ h => h) hHeld ?_
              refine take_n 6 ⟨some 104, Op.load 9 (Operand.tmp 103), _, _, _, some (4, false)⟩ rfl (fun _ _ _ h => h) hHeld ?_
              refine take_n 7 ⟨some 105, Op.call { callee := Callee.value (Operand.func 51), args := #[Operand.tmp 104], argTypes := #[9] }, _, _, _, some (4, false)⟩ rfl (fun _ _ _ h => h) hHeld ?_
              refine take_n 8 ⟨some 106, Op.unOp UnOp.not 4 (Operand.tmp 105), _, _, _, some (4, false)⟩ rfl (fun _ _ _ h => h) hHeld ?_
              refine take_v (v := ?_) 9 ⟨some 107, Op.pick (Operand.tmp 102) (Operand.const (Value.bool true)) (Operand.tmp 106), _, _, _, none⟩ rfl (fun _ _ _ h => h) ?_ hHeld ?_
              rotate_left
              · (intro W _; go_simp <;> (try with_reducible rfl))
              refine take_v (v := ?_) 10 ⟨some 108, Op.move (Operand.tmp 107), _, _, _, none⟩ rfl (fun _ _ _ h => h) ?_ hHeld ?_
              rotate_left
              · (intro W _; go_simp <;> (try with_reducible rfl))
              refine take_n 11 ⟨some 109, Op.move (Operand.tmp 11), _, _, _, some (10, false)⟩ rfl (fun _ _ _ h => h) hHeld ?_
              refine take_n 12 ⟨some 110, Op.binOp BinOp.gtr 3 (Operand.tmp 109) (Operand.const (Value.int IntKind.i64 0)) 3, _, _, _, some (10, false)⟩ rfl (fun _ _ _ h => h) hHeld ?_
              refine take_n 13 ⟨some 111, Op.move (Operand.tmp 110), _, _, _, some (10, false)⟩ rfl (fun _ _ _ h => h) hHeld ?_
              refine take_n 14 ⟨some 112, Op.fieldAddr 71 (Operand.tmp 5) 3, _, _, _, some (13, true)⟩ rfl (fun _ _ _ h => h) hHeld ?_
              refine take_n 15 ⟨some 113, Op.load 28 (Operand.tmp 112), _, _, _, some (13, true)⟩ rfl (fun _ _ _ h => h) hHeld ?_
              refine take_n 16 ⟨some 114, Op.move (Operand.tmp 11), _, _, _, some (13, true)⟩ rfl (fun _ _ _ h => h) hHeld ?_
              refine take_n 17 ⟨some 115, Op.binOp BinOp.sub 3 (Operand.tmp 114) (Operand.const (Value.int IntKind.i64 1)) 3, _, _, _, some (13, true)⟩ rfl (fun _ _ _ h => h) hHeld ?_
              refine take_n 18 ⟨some 116, Op.indexAddr 28 (Operand.tmp 113) (Operand.tmp 115), _, _, _, some (13, true)⟩ rfl (fun _ _ _ h => h) hHeld ?_
              refine take_n 19 ⟨some 117, Op.fieldAddr 55 (Operand.tmp 116) 0, _, _, _, some (13, true)⟩ rfl (fun _ _ _ h => h) hHeld ?_
              refine take_n 20 ⟨some 118, Op.load 9 (Operand.tmp 117), _, _, _, some (13, true)⟩ rfl (fun _ _ _ h => h) hHeld ?_
              refine take_n 21 ⟨some 119, Op.fieldAddr 55 (Operand.tmp 12) 0, _, _, _, some (13, true)⟩ rfl (fun _ _ _ h => h) hHeld ?_
              refine take_n 22 ⟨some 120, Op.load 9 (Operand.tmp 119), _, _, _, some (13, true)⟩ rfl (fun _ _ _ h => h) hHeld ?_
              refine take_n 23 ⟨some 121, Op.binOp BinOp.geq 9 (Operand.tmp 118) (Operand.tmp 120) 9, _, _, _, some (13, true)⟩ rfl (fun _ _ _ h => h) hHeld ?_
              refine take_n 24 ⟨some 122, Op.pick (Operand.tmp 111) (Operand.tmp 121) (Operand.const (Value.bool false)), _, _, _, some (10, false)⟩ rfl (fun _ _ _ h => h) hHeld ?_
              refine take_v (v := ?_) 25 ⟨some 123, Op.pick (Operand.tmp 108) (Operand.const (Value.bool true)) (Operand.tmp 122), _, _, _, none⟩ rfl (fun _ _ _ h => h) ?_ hHeld ?_
              rotate_left
              · (intro W _; go_simp <;> (try with_reducible rfl))
              refine wpAnyH_done (by kernel_rfl) ?_ _
              refine NoPanic.normal ?_
              go_wp2
              go_ret
              exact ⟨ret_bool HN.out.symm, H1.out.2.2.2.1⟩
            have HK : Hid (∀ W, Calls Tryz.prog 50 #[.string (V.cl i).f0] W fun r w' => r = .returned (.bool true) ∧ w' = W) := fun W => by have := l1Key_any (V.cl i).f0 W hz.1; rw [e1] at this; exact this
            cases e2' : valOk (V.cl i).f1
            · have HL : Hid (∀ W, Calls Tryz.prog 51 #[.string (V.cl i).f1] W fun r w' => r = .returned (.bool false) ∧ w' = W) := fun W => by have := l1Value_any (V.cl i).f1 W hz.2; rw [e2'] at this; exact this
              have HN : Hid (clB (txnV S V k) = false) := no_cl hic (fun g => by rw [g.1.2] at e2'; cases e2')
              clear HE
              go_upto_region 20 with fail
              refine wp_region_noPanic ?_
              refine wp_region_held_drew (S := fun W => Bx W wr.heap.size [.string (V.cl i).f0, .string (V.cl i).f1] ∧ Bx W (w.heap.size + 1) [.int .i64 V.id, .int .i64 V.st, .slice la V.ln lc, .slice (some ⟨b2, o2, none⟩) V.cn cc, .int .i64 V.e, .int .i64 V.s, .bool V.b]) (by kernel_rfl) ⟨H1.out.1, H1.out.2.2.1⟩ (fun hHeld => ?_)
              refine take_v (v := ?_) 0 ⟨some 98, Op.fieldAddr 55 (Operand.tmp 12) 0, _, _, _, none⟩ rfl (fun _ _ _ h => h) ?_ hHeld ?_
              rotate_left
              · (intro W _; go_simp <;> (try with_reducible rfl))
              refine take_v (v := ?_) 1 ⟨some 99, Op.load 9 (Operand.tmp 98), _, _, _, none⟩ rfl (fun _ _ _ h => h) ?_ hHeld ?_
              rotate_left
              · (intro W hSW; (have s0 := hSW.1.cell 0 rfl; have s1 := hSW.1.cell 1 rfl; have s2 := hSW.1.2; have s3 := hSW.2.cell 3 rfl; have s4 := hSW.2.2); go_simp <;> (try with_reducible rfl))
              refine ready_call 2 ⟨some 100, Op.call { callee := Callee.value (Operand.func 50), args := #[Operand.tmp 99], argTypes := #[9] }, _, _, _, none⟩ (by kernel_rfl) rfl (by kernel_rfl) (fun KC hK => ?_)
              go_wp2_with fail
              refine (HK.out _).mono ?_
              rintro r w2 ⟨rfl, rfl⟩
              refine hK.out _ _ hHeld (fun hHeld => ?_)
              clear hK KC
              refine take_v (v := ?_) 3 ⟨some 101, Op.unOp UnOp.not 4 (Operand.tmp 100), _, _, _, none⟩ rfl (fun _ _ _ h => h) ?_ hHeld ?_
              rotate_left
              · (intro W _; go_simp <;> (try with_reducible rfl))
              refine take_v (v := ?_) 4 ⟨some 102, Op.move (Operand.tmp 101), _, _, _, none⟩ rfl (fun _ _ _ h => h) ?_ hHeld ?_
              rotate_left
              · (intro W _; go_simp <;> (try with_reducible rfl))
              refine take_v (v := ?_) 5 ⟨some 103, Op.fieldAddr 55 (Operand.tmp 12) 1, _, _, _, some (4, false)⟩ rfl (fun _ _ _ h => h) ?_ hHeld ?_
              rotate_left
              · (intro W _; go_simp <;> (try with_reducible rfl))
              refine take_v (v := ?_) 6 ⟨some 104, Op.load 9 (Operand.tmp 103), _, _, _, some (4, false)⟩ rfl (fun _ _ _ h => h) ?_ hHeld ?_
              rotate_left
              · (intro W hSW; (have s0 := hSW.1.cell 0 rfl; have s1 := hSW.1.cell 1 rfl; have s2 := hSW.1.2; have s3 := hSW.2.cell 3 rfl; have s4 := hSW.2.2); go_simp <;> (try with_reducible rfl))
              refine ready_call 7 ⟨some 105, Op.call { callee := Callee.value (Operand.func 51), args := #[Operand.tmp 104], argTypes := #[9] }, _, _, _, some (4, false)⟩ (by kernel_rfl) rfl (by kernel_rfl) (fun KC hK => ?_)
              go_wp2_with fail
              refine (HL.out _).mono ?_
              rintro r w2 ⟨rfl, rfl⟩
              refine hK.out _ _ hHeld (fun hHeld => ?_)
              clear hK KC
              refine take_v (v := ?_) 8 ⟨some 106, Op.unOp UnOp.not 4 (Operand.tmp 105), _, _, _, some (4, false)⟩ rfl (fun _ _ _ h => h) ?_ hHeld ?_
              rotate_left
              · (intro W _; go_simp <;> (try with_reducible rfl))
              refine take_v (v := ?_) 9 ⟨some 107, Op.pick (Operand.tmp 102) (Operand.const (Value.bool true)) (Operand.tmp 106), _, _, _, none⟩ rfl (fun _ _ _ h => h) ?_ hHeld ?_
              rotate_left
              · (intro W _; go_simp <;> (try with_reducible rfl))
              refine take_v (v := ?_) 10 ⟨some 108, Op.move (Operand.tmp 107), _, _, _, none⟩ rfl (fun _ _ _ h => h) ?_ hHeld ?_
              rotate_left
              · (intro W _; go_simp <;> (try with_reducible rfl))
              refine take_n 11 ⟨some 109, Op.move (Operand.tmp 11), _, _, _, some (10, false)⟩ rfl (fun _ _ _ h => h) hHeld ?_
              refine take_n 12 ⟨some 110, Op.binOp BinOp.gtr 3 (Operand.tmp 109) (Operand.const (Value.int IntKind.i64 0)) 3, _, _, _, some (10, false)⟩ rfl (fun _ _ _ h => h) hHeld ?_
              refine take_n 13 ⟨some 111, Op.move (Operand.tmp 110), _, _, _, some (10, false)⟩ rfl (fun _ _ _ h => h) hHeld ?_
              refine take_n 14 ⟨some 112, Op.fieldAddr 71 (Operand.tmp 5) 3, _, _, _, some (13, true)⟩ rfl (fun _ _ _ h => h) hHeld ?_
              refine take_n 15 ⟨some 113, Op.load 28 (Operand.tmp 112), _, _, _, some (13, true)⟩ rfl (fun _ _ _ h => h) hHeld ?_
              refine take_n 16 ⟨some 114, Op.move (Operand.tmp 11), _, _, _, some (13, true)⟩ rfl (fun _ _ _ h => h) hHeld ?_
              refine take_n 17 ⟨some 115, Op.binOp BinOp.sub 3 (Operand.tmp 114) (Operand.const (Value.int IntKind.i64 1)) 3, _, _, _, some (13, true)⟩ rfl (fun _ _ _ h => h) hHeld ?_
              refine take_n 18 ⟨some 116, Op.indexAddr 28 (Operand.tmp 113) (Operand.tmp 115), _, _, _, some (13, true)⟩ rfl (fun _ _ _ h => h) hHeld ?_
              refine take_n 19 ⟨some 117, Op.fieldAddr 55 (Operand.tmp 116) 0, _, _, _, some (13, true)⟩ rfl (fun _ _ _ h => h) hHeld ?_
              refine take_n 20 ⟨some 118, Op.load 9 (Operand.tmp 117), _, _, _, some (13, true)⟩ rfl (fun _ _ _ h => h) hHeld ?_
              refine take_n 21 ⟨some 119, Op.fieldAddr 55 (Operand.tmp 12) 0, _, _, _, some (13, true)⟩ rfl (fun _ _ _ h => h) hHeld ?_
              refine take_n 22 ⟨some 120, Op.load 9 (Operand.tmp 119), _, _, _, some (13, true)⟩ rfl (fun _ _ _ h => h) hHeld ?_
              refine take_n 23 ⟨some 121, Op.binOp BinOp.geq 9 (Operand.tmp 118) (Operand.tmp 120) 9, _, _, _, some (13, true)⟩ rfl (fun _ _ _ h => h) hHeld ?_
              refine take_n 24 ⟨some 122, Op.pick (Operand.tmp 111) (Operand.tmp 121) (Operand.const (Value.bool false)), _, _, _, some (10, false)⟩ rfl (fun _ _ _ h => h) hHeld ?_
              refine take_v (v := ?_) 25 ⟨some 123, Op.pick (Operand.tmp 108) (Operand.const (Value.bool true)) (Operand.tmp 122), _, _, _, none⟩ rfl (fun _ _ _ h => h) ?_ hHeld ?_
              rotate_left
              · (intro W _; go_simp <;> (try with_reducible rfl))
              refine wpAnyH_done (by kernel_rfl) ?_ _
              refine NoPanic.normal ?_
              go_wp2
              go_ret
              exact ⟨ret_bool HN.out.symm, H1.out.2.2.2.1⟩
            have HL : Hid (∀ W, Calls Tryz.prog 51 #[.string (V.cl i).f1] W fun r w' => r = .returned (.bool true) ∧ w' = W) := fun W => by have := l1Value_any (V.cl i).f1 W hz.2; rw [e2'] at this; exact this
            by_cases hk0 : i = 0
            · have hk0' : decide ((0 : Int) < (i : Int)) = false := by simp; omega
              have hk0n : decide (0 < i) = false := by simp; omega
              have HY : Hid (cell1 V.cl i) := ⟨⟨e1, e2'⟩, fun h => absurd h (by omega)⟩
              clear HE hk0
              go_upto_region 20 with fail
              refine wp_region_noPanic ?_
              refine wp_region_held_drew (S := fun W => Bx W wr.heap.size [.string (V.cl i).f0, .string (V.cl i).f1] ∧ Bx W (w.heap.size + 1) [.int .i64 V.id, .int .i64 V.st, .slice la V.ln lc, .slice (some ⟨b2, o2, none⟩) V.cn cc, .int .i64 V.e, .int .i64 V.s, .bool V.b]) (by kernel_rfl) ⟨H1.out.1, H1.out.2.2.1⟩ (fun hHeld => ?_)
              refine take_v (v := ?_) 0 ⟨some 98, Op.fieldAddr 55 (Operand.tmp 12) 0, _, _, _, none⟩ rfl (fun _ _ _ h => h) ?_ hHeld ?_
              rotate_left
              · (intro W _; go_simp <;> (try with_reducible rfl))
              refine take_v (v := ?_) 1 ⟨some 99, Op.load 9 (Operand.tmp 98), _, _, _, none⟩ rfl (fun _ _ _ h => h) ?_ hHeld ?_
              rotate_left
              · (intro W hSW; (have s0 := hSW.1.cell 0 rfl; have s1 := hSW.1.cell 1 rfl; have s2 := hSW.1.2; have s3 := hSW.2.cell 3 rfl; have s4 := hSW.2.2); go_simp <;> (try with_reducible rfl))
              refine ready_call 2 ⟨some 100, Op.call { callee := Callee.value (Operand.func 50), args := #[Operand.tmp 99], argTypes := #[9] }, _, _, _, none⟩ (by kernel_rfl) rfl (by kernel_rfl) (fun KC hK => ?_)
              go_wp2_with fail
              refine (HK.out _).mono ?_
              rintro r w2 ⟨rfl, rfl⟩
              refine hK.out _ _ hHeld (fun hHeld => ?_)
              clear hK KC
              refine take_v (v := ?_) 3 ⟨some 101, Op.unOp UnOp.not 4 (Operand.tmp 100), _, _, _, none⟩ rfl (fun _ _ _ h => h) ?_ hHeld ?_
              rotate_left
              · (intro W _; go_simp <;> (try with_reducible rfl))
              refine take_v (v := ?_) 4 ⟨some 102, Op.move (Operand.tmp 101), _, _, _, none⟩ rfl (fun _ _ _ h => h) ?_ hHeld ?_
              rotate_left
              · (intro W _; go_simp <;> (try with_reducible rfl))
              refine take_v (v := ?_) 5 ⟨some 103, Op.fieldAddr 55 (Operand.tmp 12) 1, _, _, _, some (4, false)⟩ rfl (fun _ _ _ h => h) ?_ hHeld ?_
              rotate_left
              · (intro W _; go_simp <;> (try with_reducible rfl))
              refine take_v (v := ?_) 6 ⟨some 104, Op.load 9 (Operand.tmp 103), _, _, _, some (4, false)⟩ rfl (fun _ _ _ h => h) ?_ hHeld ?_
              rotate_left
              · (intro W hSW; (have s0 := hSW.1.cell 0 rfl; have s1 := hSW.1.cell 1 rfl; have s2 := hSW.1.2; have s3 := hSW.2.cell 3 rfl; have s4 := hSW.2.2); go_simp <;> (try with_reducible rfl))
              refine ready_call 7 ⟨some 105, Op.call { callee := Callee.value (Operand.func 51), args := #[Operand.tmp 104], argTypes := #[9] }, _, _, _, some (4, false)⟩ (by kernel_rfl) rfl (by kernel_rfl) (fun KC hK => ?_)
              go_wp2_with fail
              refine (HL.out _).mono ?_
              rintro r w2 ⟨rfl, rfl⟩
              refine hK.out _ _ hHeld (fun hHeld => ?_)
              clear hK KC
              refine take_v (v := ?_) 8 ⟨some 106, Op.unOp UnOp.not 4 (Operand.tmp 105), _, _, _, some (4, false)⟩ rfl (fun _ _ _ h => h) ?_ hHeld ?_
              rotate_left
              · (intro W _; go_simp <;> (try with_reducible rfl))
              refine take_v (v := ?_) 9 ⟨some 107, Op.pick (Operand.tmp 102) (Operand.const (Value.bool true)) (Operand.tmp 106), _, _, _, none⟩ rfl (fun _ _ _ h => h) ?_ hHeld ?_
              rotate_left
              · (intro W _; go_simp <;> (try with_reducible rfl))
              refine take_v (v := ?_) 10 ⟨some 108, Op.move (Operand.tmp 107), _, _, _, none⟩ rfl (fun _ _ _ h => h) ?_ hHeld ?_
              rotate_left
              · (intro W _; go_simp <;> (try with_reducible rfl))
              refine take_v (v := ?_) 11 ⟨some 109, Op.move (Operand.tmp 11), _, _, _, some (10, false)⟩ rfl (fun _ _ _ h => h) ?_ hHeld ?_
              rotate_left
              · (intro W _; go_simp <;> (try with_reducible rfl))
              refine take_v (v := ?_) 12 ⟨some 110, Op.binOp BinOp.gtr 3 (Operand.tmp 109) (Operand.const (Value.int IntKind.i64 0)) 3, _, _, _, some (10, false)⟩ rfl (fun _ _ _ h => h) ?_ hHeld ?_
              rotate_left
              · (intro W _; go_simp <;> (try with_reducible rfl))
              refine take_v (v := ?_) 13 ⟨some 111, Op.move (Operand.tmp 110), _, _, _, some (10, false)⟩ rfl (fun _ _ _ h => h) ?_ hHeld ?_
              rotate_left
              · (intro W _; go_simp <;> (try with_reducible rfl))
              refine take_n 14 ⟨some 112, Op.fieldAddr 71 (Operand.tmp 5) 3, _, _, _, some (13, true)⟩ rfl (fun _ _ _ h => h) hHeld ?_
              refine take_n 15 ⟨some 113, Op.load 28 (Operand.tmp 112), _, _, _, some (13, true)⟩ rfl (fun _ _ _ h => h) hHeld ?_
              refine take_n 16 ⟨some 114, Op.move (Operand.tmp 11), _, _, _, some (13, true)⟩ rfl (fun _ _ _ h => h) hHeld ?_
              refine take_n 17 ⟨some 115, Op.binOp BinOp.sub 3 (Operand.tmp 114) (Operand.const (Value.int IntKind.i64 1)) 3, _, _, _, some (13, true)⟩ rfl (fun _ _ _ h => h) hHeld ?_
              refine take_n 18 ⟨some 116, Op.indexAddr 28 (Operand.tmp 113) (Operand.tmp 115), _, _, _, some (13, true)⟩ rfl (fun _ _ _ h => h) hHeld ?_
              refine take_n 19 ⟨some 117, Op.fieldAddr 55 (Operand.tmp 116) 0, _, _, _, some (13, true)⟩ rfl (fun _ _ _ h => h) hHeld ?_
              refine take_n 20 ⟨some 118, Op.load 9 (Operand.tmp 117), _, _, _, some (13, true)⟩ rfl (fun _ _ _ h => h) hHeld ?_
              refine take_n 21 ⟨some 119, Op.fieldAddr 55 (Operand.tmp 12) 0, _, _, _, some (13, true)⟩ rfl (fun _ _ _ h => h) hHeld ?_
              refine take_n 22 ⟨some 120, Op.load 9 (Operand.tmp 119), _, _, _, some (13, true)⟩ rfl (fun _ _ _ h => h) hHeld ?_
              refine take_n 23 ⟨some 121, Op.binOp BinOp.geq 9 (Operand.tmp 118) (Operand.tmp 120) 9, _, _, _, some (13, true)⟩ rfl (fun _ _ _ h => h) hHeld ?_
              refine take_v (v := ?_) 24 ⟨some 122, Op.pick (Operand.tmp 111) (Operand.tmp 121) (Operand.const (Value.bool false)), _, _, _, some (10, false)⟩ rfl (fun _ _ _ h => h) ?_ hHeld ?_
              rotate_left
              · (intro W _; go_simp <;> (try with_reducible rfl))
              refine take_v (v := ?_) 25 ⟨some 123, Op.pick (Operand.tmp 108) (Operand.const (Value.bool true)) (Operand.tmp 122), _, _, _, none⟩ rfl (fun _ _ _ h => h) ?_ hHeld ?_
              rotate_left
              · (intro W _; go_simp <;> (try with_reducible rfl))
              refine wpAnyH_done (by kernel_rfl) ?_ _
              refine NoPanic.normal ?_
              have b0 := H1.out.2.1.cell 0 rfl
              have b1' := H1.out.2.1.cell 1 rfl
              have b2' := H1.out.2.1.cell 2 rfl
              have b3' := H1.out.2.1.cell 3 rfl
              have bz := H1.out.2.1.2
              have k0 := H1.out.1.cell 0 rfl
              have kz := H1.out.1.2
              go_wp2_with fail
              refine (l5Find_at ra rc (some ⟨b, off, none⟩) tc oa oc S (V.cl i).f0 _ HS.out.2.2.2.1 (HS.out.2.2.1.below H1.out.2.2.2.1 (Nat.le_refl _))).mono ?_
              rintro r w3 ⟨o, f, rfl, hF, hb⟩
              have HF := (show Hid (_ ∨ _) from hF)
              have H3 : Hid (L5H w [.int .i64 S.ep, .slice ra S.rn rc, .slice (some ⟨b, off, none⟩) S.tn tc, .slice oa S.on oc] [.int .i64 V.id, .int .i64 V.st, .slice la V.ln lc, .slice (some ⟨b2, o2, none⟩) V.cn cc, .int .i64 V.e, .int .i64 V.s, .bool V.b] w3 ∧ Below w.heap.size w (w3.alloc (.cells #[.string o.f0, .string o.f1, .int .i64 o.f2, .int .i64 o.f3, .bool o.f4, .int .i64 o.f5] 52)) ∧ L5H w [.int .i64 S.ep, .slice ra S.rn rc, .slice (some ⟨b, off, none⟩) S.tn tc, .slice oa S.on oc] [.int .i64 V.id, .int .i64 V.st, .slice la V.ln lc, .slice (some ⟨b2, o2, none⟩) V.cn cc, .int .i64 V.e, .int .i64 V.s, .bool V.b] (w3.alloc (.cells #[.string o.f0, .string o.f1, .int .i64 o.f2, .int .i64 o.f3, .bool o.f4, .int .i64 o.f5] 52))) := by
                have g : L5H w [.int .i64 S.ep, .slice ra S.rn rc, .slice (some ⟨b, off, none⟩) S.tn tc, .slice oa S.on oc] [.int .i64 V.id, .int .i64 V.st, .slice la V.ln lc, .slice (some ⟨b2, o2, none⟩) V.cn cc, .int .i64 V.e, .int .i64 V.s, .bool V.b] w3 := ⟨H1.out.2.1.next hb, H1.out.2.2.1.next hb, below_next' H1.out.2.2.2.1 hb⟩
                exact ⟨g, below_next' g.2.2 (Go.Joins.below_alloc1 _ _), g.next (Go.Joins.below_alloc1 _ _)⟩
              have HQ9 : Hid (cellsP V.cl i) := H1.out.2.2.2.2.1
              have HO9 : Hid (∀ j, j < i → ownQ S V j) := H1.out.2.2.2.2.2
              clear hF hb H1 b0 b1' b2' b3' bz k0 kz
              have r0 := H3.out.1.2.1.cell 0 rfl
              have rz := H3.out.1.2.1.2
              cases f
              · have HN : Hid (clB (txnV S V k) = false) := by
                  rcases HF.out with ⟨h, _⟩ | ⟨_, h⟩
                  · cases h
                  · exact no_own HM.out hic (fun ⟨q, h1, h2, _⟩ => h q h1 h2)
                go_wp2
                go_ret
                exact ⟨ret_bool HN.out.symm, H3.out.2.1⟩
              · cases e : (o.f5 != V.id)
                · have HW : Hid (ownQ S V i) := by
                    have e' : o.f5 = V.id := by simpa using e
                    rcases HF.out with ⟨_, q, h1, h2, h3⟩ | ⟨h, _⟩
                    · exact ⟨q, h1, h2, by rw [← h3]; exact e'⟩
                    · cases h
                  clear HF
                  go_wp2
                  go_roundw
                  case rel => exact ⟨i + 1, by omega, by go_num, upto_succ HQ9.out HY.out, upto_succ HO9.out HW.out, H3.out.2.2⟩
                  case measure => simp [intOf]; omega
                · have HN : Hid (clB (txnV S V k) = false) := by
                    have e' : o.f5 ≠ V.id := by simpa using e
                    rcases HF.out with ⟨_, q, h1, h2, h3⟩ | ⟨h, _⟩
                    · refine no_own HM.out hic (fun ⟨q', g1, g2, g3⟩ => ?_)
                      have : q' = q := riseK_ne HS.out.2.2.2.2 g1 h1 (g2.trans h2.symm)
                      subst this
                      exact e' (by rw [h3]; exact g3)
                    · cases h
                  clear HF
                  go_wp2
                  go_ret
                  exact ⟨ret_bool HN.out.symm, H3.out.2.1⟩
            · obtain ⟨q, hq⟩ : ∃ q, q = i - 1 := ⟨_, rfl⟩
              have hwq : IntKind.i64.wrap ((i : Int) - 1) = (q : Int) := by rw [IntKind.wrap_i64]; omega
              have HQ : Hid (i = q + 1) := by show i = q + 1; omega
              have hq0 : (0 : Int) < (i : Int) := by omega
              have hq0n : decide (0 < i) = true := by simp; omega
              have hqn : (q : Int) < (V.cn : Int) := by omega
              have HQ1 := (show Hid _ from HE.out q (by omega))
              clear HE hk0 hq
              have HC : Hid (cell1 V.cl i ↔ Op.bytesLess (V.cl q).f0.toList (V.cl i).f0.toList = true) := by
                show _ ↔ _
                have : i - 1 = q := by have := HQ.out; omega
                constructor
                · intro g; have := g.2 (by omega); rwa [‹i - 1 = q›] at this
                · intro g; exact ⟨⟨e1, e2'⟩, fun _ => by rw [‹i - 1 = q›]; exact g⟩
              cases e3' : Op.bytesLess (V.cl q).f0.toList (V.cl i).f0.toList
              · have HN : Hid (clB (txnV S V k) = false) := no_cl hic (fun g => by rw [HC.out.1 g] at e3'; cases e3')
                go_upto_region 20 with fail
                refine wp_region_noPanic ?_
                refine wp_region_held_drew (S := fun W => Bx W wr.heap.size [.string (V.cl i).f0, .string (V.cl i).f1] ∧ Bx W (w.heap.size + 1) [.int .i64 V.id, .int .i64 V.st, .slice la V.ln lc, .slice (some ⟨b2, o2, none⟩) V.cn cc, .int .i64 V.e, .int .i64 V.s, .bool V.b] ∧ W.cell? ⟨b2, o2 + q * 2, none⟩ = some (.string (V.cl q).f0)) (by kernel_rfl) ⟨H1.out.1, H1.out.2.2.1, HQ1.out⟩ (fun hHeld => ?_)
                refine take_v (v := ?_) 0 ⟨some 98, Op.fieldAddr 55 (Operand.tmp 12) 0, _, _, _, none⟩ rfl (fun _ _ _ h => h) ?_ hHeld ?_
                rotate_left
                · (intro W _; go_simp <;> (try with_reducible rfl))
                refine take_v (v := ?_) 1 ⟨some 99, Op.load 9 (Operand.tmp 98), _, _, _, none⟩ rfl (fun _ _ _ h => h) ?_ hHeld ?_
                rotate_left
                · (intro W hSW; (have s0 := hSW.1.cell 0 rfl; have s1 := hSW.1.cell 1 rfl; have s2 := hSW.1.2; have s3 := hSW.2.1.cell 3 rfl; have s4 := hSW.2.1.2; have s5 := hSW.2.2); go_simp <;> (try with_reducible rfl))
                refine ready_call 2 ⟨some 100, Op.call { callee := Callee.value (Operand.func 50), args := #[Operand.tmp 99], argTypes := #[9] }, _, _, _, none⟩ (by kernel_rfl) rfl (by kernel_rfl) (fun KC hK => ?_)
                go_wp2_with fail
                refine (HK.out _).mono ?_
                rintro r w2 ⟨rfl, rfl⟩
                refine hK.out _ _ hHeld (fun hHeld => ?_)
                clear hK KC
                refine take_v (v := ?_) 3 ⟨some 101, Op.unOp UnOp.not 4 (Operand.tmp 100), _, _, _, none⟩ rfl (fun _ _ _ h => h) ?_ hHeld ?_
                rotate_left
                · (intro W _; go_simp <;> (try with_reducible rfl))
                refine take_v (v := ?_) 4 ⟨some 102, Op.move (Operand.tmp 101), _, _, _, none⟩ rfl (fun _ _ _ h => h) ?_ hHeld ?_
                rotate_left
                · (intro W _; go_simp <;> (try with_reducible rfl))
                refine take_v (v := ?_) 5 ⟨some 103, Op.fieldAddr 55 (Operand.tmp 12) 1, _, _, _, some (4, false)⟩ rfl (fun _ _ _ h => h) ?_ hHeld ?_
                rotate_left
                · (intro W _; go_simp <;> (try with_reducible rfl))
                refine take_v (v := ?_) 6 ⟨some 104, Op.load 9 (Operand.tmp 103), _, _, _, some (4, false)⟩ rfl (fun _ _ _ h => h) ?_ hHeld ?_
                rotate_left
                · (intro W hSW; (have s0 := hSW.1.cell 0 rfl; have s1 := hSW.1.cell 1 rfl; have s2 := hSW.1.2; have s3 := hSW.2.1.cell 3 rfl; have s4 := hSW.2.1.2; have s5 := hSW.2.2); go_simp <;> (try with_reducible rfl))
                refine ready_call 7 ⟨some 105, Op.call { callee := Callee.value (Operand.func 51), args := #[Operand.tmp 104], argTypes := #[9] }, _, _, _, some (4, false)⟩ (by kernel_rfl) rfl (by kernel_rfl) (fun KC hK => ?_)
                go_wp2_with fail
                refine (HL.out _).mono ?_
                rintro r w2 ⟨rfl, rfl⟩
                refine hK.out _ _ hHeld (fun hHeld => ?_)
                clear hK KC
                refine take_v (v := ?_) 8 ⟨some 106, Op.unOp UnOp.not 4 (Operand.tmp 105), _, _, _, some (4, false)⟩ rfl (fun _ _ _ h => h) ?_ hHeld ?_
                rotate_left
                · (intro W _; go_simp <;> (try with_reducible rfl))
                refine take_v (v := ?_) 9 ⟨some 107, Op.pick (Operand.tmp 102) (Operand.const (Value.bool true)) (Operand.tmp 106), _, _, _, none⟩ rfl (fun _ _ _ h => h) ?_ hHeld ?_
                rotate_left
                · (intro W _; go_simp <;> (try with_reducible rfl))
                refine take_v (v := ?_) 10 ⟨some 108, Op.move (Operand.tmp 107), _, _, _, none⟩ rfl (fun _ _ _ h => h) ?_ hHeld ?_
                rotate_left
                · (intro W _; go_simp <;> (try with_reducible rfl))
                refine take_v (v := ?_) 11 ⟨some 109, Op.move (Operand.tmp 11), _, _, _, some (10, false)⟩ rfl (fun _ _ _ h => h) ?_ hHeld ?_
                rotate_left
                · (intro W _; go_simp <;> (try with_reducible rfl))
                refine take_v (v := ?_) 12 ⟨some 110, Op.binOp BinOp.gtr 3 (Operand.tmp 109) (Operand.const (Value.int IntKind.i64 0)) 3, _, _, _, some (10, false)⟩ rfl (fun _ _ _ h => h) ?_ hHeld ?_
                rotate_left
                · (intro W _; go_simp <;> (try with_reducible rfl))
                refine take_v (v := ?_) 13 ⟨some 111, Op.move (Operand.tmp 110), _, _, _, some (10, false)⟩ rfl (fun _ _ _ h => h) ?_ hHeld ?_
                rotate_left
                · (intro W _; go_simp <;> (try with_reducible rfl))
                refine take_v (v := ?_) 14 ⟨some 112, Op.fieldAddr 71 (Operand.tmp 5) 3, _, _, _, some (13, true)⟩ rfl (fun _ _ _ h => h) ?_ hHeld ?_
                rotate_left
                · (intro W _; go_simp <;> (try with_reducible rfl))
                refine take_v (v := ?_) 15 ⟨some 113, Op.load 28 (Operand.tmp 112), _, _, _, some (13, true)⟩ rfl (fun _ _ _ h => h) ?_ hHeld ?_
                rotate_left
                · (intro W hSW; (have s0 := hSW.1.cell 0 rfl; have s1 := hSW.1.cell 1 rfl; have s2 := hSW.1.2; have s3 := hSW.2.1.cell 3 rfl; have s4 := hSW.2.1.2; have s5 := hSW.2.2); go_simp <;> (try with_reducible rfl))
                refine take_v (v := ?_) 16 ⟨some 114, Op.move (Operand.tmp 11), _, _, _, some (13, true)⟩ rfl (fun _ _ _ h => h) ?_ hHeld ?_
                rotate_left
                · (intro W _; go_simp <;> (try with_reducible rfl))
                refine take_v (v := ?_) 17 ⟨some 115, Op.binOp BinOp.sub 3 (Operand.tmp 114) (Operand.const (Value.int IntKind.i64 1)) 3, _, _, _, some (13, true)⟩ rfl (fun _ _ _ h => h) ?_ hHeld ?_
                rotate_left
                · (intro W _; go_simp <;> (try with_reducible rfl))
                refine take_v (v := ?_) 18 ⟨some 116, Op.indexAddr 28 (Operand.tmp 113) (Operand.tmp 115), _, _, _, some (13, true)⟩ rfl (fun _ _ _ h => h) ?_ hHeld ?_
                rotate_left
                · (intro W _; go_simp <;> (try with_reducible rfl))
                refine take_v (v := ?_) 19 ⟨some 117, Op.fieldAddr 55 (Operand.tmp 116) 0, _, _, _, some (13, true)⟩ rfl (fun _ _ _ h => h) ?_ hHeld ?_
                rotate_left
                · (intro W _; go_simp <;> (try with_reducible rfl))
                refine take_v (v := ?_) 20 ⟨some 118, Op.load 9 (Operand.tmp 117), _, _, _, some (13, true)⟩ rfl (fun _ _ _ h => h) ?_ hHeld ?_
                rotate_left
                · (intro W hSW; (have s0 := hSW.1.cell 0 rfl; have s1 := hSW.1.cell 1 rfl; have s2 := hSW.1.2; have s3 := hSW.2.1.cell 3 rfl; have s4 := hSW.2.1.2; have s5 := hSW.2.2); go_simp <;> (try with_reducible rfl))
                refine take_v (v := ?_) 21 ⟨some 119, Op.fieldAddr 55 (Operand.tmp 12) 0, _, _, _, some (13, true)⟩ rfl (fun _ _ _ h => h) ?_ hHeld ?_
                rotate_left
                · (intro W _; go_simp <;> (try with_reducible rfl))
                refine take_v (v := ?_) 22 ⟨some 120, Op.load 9 (Operand.tmp 119), _, _, _, some (13, true)⟩ rfl (fun _ _ _ h => h) ?_ hHeld ?_
                rotate_left
                · (intro W hSW; (have s0 := hSW.1.cell 0 rfl; have s1 := hSW.1.cell 1 rfl; have s2 := hSW.1.2; have s3 := hSW.2.1.cell 3 rfl; have s4 := hSW.2.1.2; have s5 := hSW.2.2); go_simp <;> (try with_reducible rfl))
                refine take_v (v := ?_) 23 ⟨some 121, Op.binOp BinOp.geq 9 (Operand.tmp 118) (Operand.tmp 120) 9, _, _, _, some (13, true)⟩ rfl (fun _ _ _ h => h) ?_ hHeld ?_
                rotate_left
                · (intro W _; go_simp <;> (try with_reducible rfl))
                refine take_v (v := ?_) 24 ⟨some 122, Op.pick (Operand.tmp 111) (Operand.tmp 121) (Operand.const (Value.bool false)), _, _, _, some (10, false)⟩ rfl (fun _ _ _ h => h) ?_ hHeld ?_
                rotate_left
                · (intro W _; go_simp <;> (try with_reducible rfl))
                refine take_v (v := ?_) 25 ⟨some 123, Op.pick (Operand.tmp 108) (Operand.const (Value.bool true)) (Operand.tmp 122), _, _, _, none⟩ rfl (fun _ _ _ h => h) ?_ hHeld ?_
                rotate_left
                · (intro W _; go_simp <;> (try with_reducible rfl))
                refine wpAnyH_done (by kernel_rfl) ?_ _
                refine NoPanic.normal ?_
                go_wp2
                go_ret
                exact ⟨ret_bool HN.out.symm, H1.out.2.2.2.1⟩
              · have HY : Hid (cell1 V.cl i) := HC.out.2 e3'
                go_upto_region 20 with fail
                refine wp_region_noPanic ?_
                refine wp_region_held_drew (S := fun W => Bx W wr.heap.size [.string (V.cl i).f0, .string (V.cl i).f1] ∧ Bx W (w.heap.size + 1) [.int .i64 V.id, .int .i64 V.st, .slice la V.ln lc, .slice (some ⟨b2, o2, none⟩) V.cn cc, .int .i64 V.e, .int .i64 V.s, .bool V.b] ∧ W.cell? ⟨b2, o2 + q * 2, none⟩ = some (.string (V.cl q).f0)) (by kernel_rfl) ⟨H1.out.1, H1.out.2.2.1, HQ1.out⟩ (fun hHeld => ?_)
                refine take_v (v := ?_) 0 ⟨some 98, Op.fieldAddr 55 (Operand.tmp 12) 0, _, _, _, none⟩ rfl (fun _ _ _ h => h) ?_ hHeld ?_
                rotate_left
                · (intro W _; go_simp <;> (try with_reducible rfl))
                refine take_v (v := ?_) 1 ⟨some 99, Op.load 9 (Operand.tmp 98), _, _, _, none⟩ rfl (fun _ _ _ h => h) ?_ hHeld ?_
                rotate_left
                · (intro W hSW; (have s0 := hSW.1.cell 0 rfl; have s1 := hSW.1.cell 1 rfl; have s2 := hSW.1.2; have s3 := hSW.2.1.cell 3 rfl; have s4 := hSW.2.1.2; have s5 := hSW.2.2); go_simp <;> (try with_reducible rfl))
                refine ready_call 2 ⟨some 100, Op.call { callee := Callee.value (Operand.func 50), args := #[Operand.tmp 99], argTypes := #[9] }, _, _, _, none⟩ (by kernel_rfl) rfl (by kernel_rfl) (fun KC hK => ?_)
                go_wp2_with fail
                refine (HK.out _).mono ?_
                rintro r w2 ⟨rfl, rfl⟩
                refine hK.out _ _ hHeld (fun hHeld => ?_)
                clear hK KC
                refine take_v (v := ?_) 3 ⟨some 101, Op.unOp UnOp.not 4 (Operand.tmp 100), _, _, _, none⟩ rfl (fun _ _ _ h => h) ?_ hHeld ?_
                rotate_left
                · (intro W _; go_simp <;> (try with_reducible rfl))
                refine take_v (v := ?_) 4 ⟨some 102, Op.move (Operand.tmp 101), _, _, _, none⟩ rfl (fun _ _ _ h => h) ?_ hHeld ?_
                rotate_left
                · (intro W _; go_simp <;> (try with_reducible rfl))
                refine take_v (v := ?_) 5 ⟨some 103, Op.fieldAddr 55 (Operand.tmp 12) 1, _, _, _, some (4, false)⟩ rfl (fun _ _ _ h => h) ?_ hHeld ?_
                rotate_left
                · (intro W _; go_simp <;> (try with_reducible rfl))
                refine take_v (v := ?_) 6 ⟨some 104, Op.load 9 (Operand.tmp 103), _, _, _, some (4, false)⟩ rfl (fun _ _ _ h => h) ?_ hHeld ?_
                rotate_left
                · (intro W hSW; (have s0 := hSW.1.cell 0 rfl; have s1 := hSW.1.cell 1 rfl; have s2 := hSW.1.2; have s3 := hSW.2.1.cell 3 rfl; have s4 := hSW.2.1.2; have s5 := hSW.2.2); go_simp <;> (try with_reducible rfl))
                refine ready_call 7 ⟨some 105, Op.call { callee := Callee.value (Operand.func 51), args := #[Operand.tmp 104], argTypes := #[9] }, _, _, _, some (4, false)⟩ (by kernel_rfl) rfl (by kernel_rfl) (fun KC hK => ?_)
                go_wp2_with fail
                refine (HL.out _).mono ?_
                rintro r w2 ⟨rfl, rfl⟩
                refine hK.out _ _ hHeld (fun hHeld => ?_)
                clear hK KC
                refine take_v (v := ?_) 8 ⟨some 106, Op.unOp UnOp.not 4 (Operand.tmp 105), _, _, _, some (4, false)⟩ rfl (fun _ _ _ h => h) ?_ hHeld ?_
                rotate_left
                · (intro W _; go_simp <;> (try with_reducible rfl))
                refine take_v (v := ?_) 9 ⟨some 107, Op.pick (Operand.tmp 102) (Operand.const (Value.bool true)) (Operand.tmp 106), _, _, _, none⟩ rfl (fun _ _ _ h => h) ?_ hHeld ?_
                rotate_left
                · (intro W _; go_simp <;> (try with_reducible rfl))
                refine take_v (v := ?_) 10 ⟨some 108, Op.move (Operand.tmp 107), _, _, _, none⟩ rfl (fun _ _ _ h => h) ?_ hHeld ?_
                rotate_left
                · (intro W _; go_simp <;> (try with_reducible rfl))
                refine take_v (v := ?_) 11 ⟨some 109, Op.move (Operand.tmp 11), _, _, _, some (10, false)⟩ rfl (fun _ _ _ h => h) ?_ hHeld ?_
                rotate_left
                · (intro W _; go_simp <;> (try with_reducible rfl))
                refine take_v (v := ?_) 12 ⟨some 110, Op.binOp BinOp.gtr 3 (Operand.tmp 109) (Operand.const (Value.int IntKind.i64 0)) 3, _, _, _, some (10, false)⟩ rfl (fun _ _ _ h => h) ?_ hHeld ?_
                rotate_left
                · (intro W _; go_simp <;> (try with_reducible rfl))
                refine take_v (v := ?_) 13 ⟨some 111, Op.move (Operand.tmp 110), _, _, _, some (10, false)⟩ rfl (fun _ _ _ h => h) ?_ hHeld ?_
                rotate_left
                · (intro W _; go_simp <;> (try with_reducible rfl))
                refine take_v (v := ?_) 14 ⟨some 112, Op.fieldAddr 71 (Operand.tmp 5) 3, _, _, _, some (13, true)⟩ rfl (fun _ _ _ h => h) ?_ hHeld ?_
                rotate_left
                · (intro W _; go_simp <;> (try with_reducible rfl))
                refine take_v (v := ?_) 15 ⟨some 113, Op.load 28 (Operand.tmp 112), _, _, _, some (13, true)⟩ rfl (fun _ _ _ h => h) ?_ hHeld ?_
                rotate_left
                · (intro W hSW; (have s0 := hSW.1.cell 0 rfl; have s1 := hSW.1.cell 1 rfl; have s2 := hSW.1.2; have s3 := hSW.2.1.cell 3 rfl; have s4 := hSW.2.1.2; have s5 := hSW.2.2); go_simp <;> (try with_reducible rfl))
                refine take_v (v := ?_) 16 ⟨some 114, Op.move (Operand.tmp 11), _, _, _, some (13, true)⟩ rfl (fun _ _ _ h => h) ?_ hHeld ?_
                rotate_left
                · (intro W _; go_simp <;> (try with_reducible rfl))
                refine take_v (v := ?_) 17 ⟨some 115, Op.binOp BinOp.sub 3 (Operand.tmp 114) (Operand.const (Value.int IntKind.i64 1)) 3, _, _, _, some (13, true)⟩ rfl (fun _ _ _ h => h) ?_ hHeld ?_
                rotate_left
                · (intro W _; go_simp <;> (try with_reducible rfl))
                refine take_v (v := ?_) 18 ⟨some 116, Op.indexAddr 28 (Operand.tmp 113) (Operand.tmp 115), _, _, _, some (13, true)⟩ rfl (fun _ _ _ h => h) ?_ hHeld ?_
                rotate_left
                · (intro W _; go_simp <;> (try with_reducible rfl))
                refine take_v (v := ?_) 19 ⟨some 117, Op.fieldAddr 55 (Operand.tmp 116) 0, _, _, _, some (13, true)⟩ rfl (fun _ _ _ h => h) ?_ hHeld ?_
                rotate_left
                · (intro W _; go_simp <;> (try with_reducible rfl))
                refine take_v (v := ?_) 20 ⟨some 118, Op.load 9 (Operand.tmp 117), _, _, _, some (13, true)⟩ rfl (fun _ _ _ h => h) ?_ hHeld ?_
                rotate_left
                · (intro W hSW; (have s0 := hSW.1.cell 0 rfl; have s1 := hSW.1.cell 1 rfl; have s2 := hSW.1.2; have s3 := hSW.2.1.cell 3 rfl; have s4 := hSW.2.1.2; have s5 := hSW.2.2); go_simp <;> (try with_reducible rfl))
                refine take_v (v := ?_) 21 ⟨some 119, Op.fieldAddr 55 (Operand.tmp 12) 0, _, _, _, some (13, true)⟩ rfl (fun _ _ _ h => h) ?_ hHeld ?_
                rotate_left
                · (intro W _; go_simp <;> (try with_reducible rfl))
                refine take_v (v := ?_) 22 ⟨some 120, Op.load 9 (Operand.tmp 119), _, _, _, some (13, true)⟩ rfl (fun _ _ _ h => h) ?_ hHeld ?_
                rotate_left
                · (intro W hSW; (have s0 := hSW.1.cell 0 rfl; have s1 := hSW.1.cell 1 rfl; have s2 := hSW.1.2; have s3 := hSW.2.1.cell 3 rfl; have s4 := hSW.2.1.2; have s5 := hSW.2.2); go_simp <;> (try with_reducible rfl))
                refine take_v (v := ?_) 23 ⟨some 121, Op.binOp BinOp.geq 9 (Operand.tmp 118) (Operand.tmp 120) 9, _, _, _, some (13, true)⟩ rfl (fun _ _ _ h => h) ?_ hHeld ?_
                rotate_left
                · (intro W _; go_simp <;> (try with_reducible rfl))
                refine take_v (v := ?_) 24 ⟨some 122, Op.pick (Operand.tmp 111) (Operand.tmp 121) (Operand.const (Value.bool false)), _, _, _, some (10, false)⟩ rfl (fun _ _ _ h => h) ?_ hHeld ?_
                rotate_left
                · (intro W _; go_simp <;> (try with_reducible rfl))
                refine take_v (v := ?_) 25 ⟨some 123, Op.pick (Operand.tmp 108) (Operand.const (Value.bool true)) (Operand.tmp 122), _, _, _, none⟩ rfl (fun _ _ _ h => h) ?_ hHeld ?_
                rotate_left
                · (intro W _; go_simp <;> (try with_reducible rfl))
                refine wpAnyH_done (by kernel_rfl) ?_ _
                refine NoPanic.normal ?_
                clear HQ1 hwq
                have b0 := H1.out.2.1.cell 0 rfl
                have b1' := H1.out.2.1.cell 1 rfl
                have b2' := H1.out.2.1.cell 2 rfl
                have b3' := H1.out.2.1.cell 3 rfl
                have bz := H1.out.2.1.2
                have k0 := H1.out.1.cell 0 rfl
                have kz := H1.out.1.2
                go_wp2_with fail
                refine (l5Find_at ra rc (some ⟨b, off, none⟩) tc oa oc S (V.cl i).f0 _ HS.out.2.2.2.1 (HS.out.2.2.1.below H1.out.2.2.2.1 (Nat.le_refl _))).mono ?_
                rintro r w3 ⟨o, f, rfl, hF, hb⟩
                have HF := (show Hid (_ ∨ _) from hF)
                have H3 : Hid (L5H w [.int .i64 S.ep, .slice ra S.rn rc, .slice (some ⟨b, off, none⟩) S.tn tc, .slice oa S.on oc] [.int .i64 V.id, .int .i64 V.st, .slice la V.ln lc, .slice (some ⟨b2, o2, none⟩) V.cn cc, .int .i64 V.e, .int .i64 V.s, .bool V.b] w3 ∧ Below w.heap.size w (w3.alloc (.cells #[.string o.f0, .string o.f1, .int .i64 o.f2, .int .i64 o.f3, .bool o.f4, .int .i64 o.f5] 52)) ∧ L5H w [.int .i64 S.ep, .slice ra S.rn rc, .slice (some ⟨b, off, none⟩) S.tn tc, .slice oa S.on oc] [.int .i64 V.id, .int .i64 V.st, .slice la V.ln lc, .slice (some ⟨b2, o2, none⟩) V.cn cc, .int .i64 V.e, .int .i64 V.s, .bool V.b] (w3.alloc (.cells #[.string o.f0, .string o.f1, .int .i64 o.f2, .int .i64 o.f3, .bool o.f4, .int .i64 o.f5] 52))) := by
                  have g : L5H w [.int .i64 S.ep, .slice ra S.rn rc, .slice (some ⟨b, off, none⟩) S.tn tc, .slice oa S.on oc] [.int .i64 V.id, .int .i64 V.st, .slice la V.ln lc, .slice (some ⟨b2, o2, none⟩) V.cn cc, .int .i64 V.e, .int .i64 V.s, .bool V.b] w3 := ⟨H1.out.2.1.next hb, H1.out.2.2.1.next hb, below_next' H1.out.2.2.2.1 hb⟩
                  exact ⟨g, below_next' g.2.2 (Go.Joins.below_alloc1 _ _), g.next (Go.Joins.below_alloc1 _ _)⟩
                have HQ9 : Hid (cellsP V.cl i) := H1.out.2.2.2.2.1
                have HO9 : Hid (∀ j, j < i → ownQ S V j) := H1.out.2.2.2.2.2
                clear hF hb H1 b0 b1' b2' b3' bz k0 kz
                have r0 := H3.out.1.2.1.cell 0 rfl
                have rz := H3.out.1.2.1.2
                cases f
                · have HN : Hid (clB (txnV S V k) = false) := by
                    rcases HF.out with ⟨h, _⟩ | ⟨_, h⟩
                    · cases h
                    · exact no_own HM.out hic (fun ⟨q, h1, h2, _⟩ => h q h1 h2)
                  go_wp2
                  go_ret
                  exact ⟨ret_bool HN.out.symm, H3.out.2.1⟩
                · cases e : (o.f5 != V.id)
                  · have HW : Hid (ownQ S V i) := by
                      have e' : o.f5 = V.id := by simpa using e
                      rcases HF.out with ⟨_, q, h1, h2, h3⟩ | ⟨h, _⟩
                      · exact ⟨q, h1, h2, by rw [← h3]; exact e'⟩
                      · cases h
                    clear HF
                    go_wp2
                    go_roundw
                    case rel => exact ⟨i + 1, by omega, by go_num, upto_succ HQ9.out HY.out, upto_succ HO9.out HW.out, H3.out.2.2⟩
                    case measure => simp [intOf]; omega
                  · have HN : Hid (clB (txnV S V k) = false) := by
                      have e' : o.f5 ≠ V.id := by simpa using e
                      rcases HF.out with ⟨_, q, h1, h2, h3⟩ | ⟨h, _⟩
                      · refine no_own HM.out hic (fun ⟨q', g1, g2, g3⟩ => ?_)
                        have : q' = q := riseK_ne HS.out.2.2.2.2 g1 h1 (g2.trans h2.symm)
                        subst this
                        exact e' (by rw [h3]; exact g3)
                      · cases h
                    clear HF
                    go_wp2
                    go_ret
                    exact ⟨ret_bool HN.out.symm, H3.out.2.1⟩
          · have hin : i = V.cn := by omega
            have hic' : ¬ (i : Int) < (V.cn : Int) := by omega
            have HCL : Hid (cellsP V.cl V.cn) := by rw [hin] at hall; exact hall
            have HOW : Hid (ownsP S V) := by rw [hin] at hown; exact hown
            have HX1 : Hid (L5H w [.int .i64 S.ep, .slice ra S.rn rc, .slice (some ⟨b, off, none⟩) S.tn tc, .slice oa S.on oc] [.int .i64 V.id, .int .i64 V.st, .slice la V.ln lc, .slice ca V.cn cc, .int .i64 V.e, .int .i64 V.s, .bool V.b] wr) := hL
            have t1 := hL.2.1.cell 1 rfl
            have t4 := hL.2.1.cell 4 rfl
            have t5 := hL.2.1.cell 5 rfl
            have t6 := hL.2.1.cell 6 rfl
            have tz := hL.2.1.2
            have HT : Hid (clB (txnV S V k) = tidOk V.st V.e V.s V.b) := txn_is HID.out e0 HLO.out HCL.out (fun h => HOW.out)
            clear hall hown hL hin
            have HT2 : Hid (clB (txnV S V k) = (goodT V.e V.s && !V.b)) := by show _ = _; rw [HT.out, tidOk, if_pos HB.out]
            go_wp2_with fail
            refine (l1Tid_any _ _ _ _).mono ?_
            rintro r w4 ⟨rfl, hb⟩
            have H4 : Hid (Below w.heap.size w w4) := below_next' HX1.out.2.2 hb
            have u6 := (HX1.out.2.1.next hb).cell 6 rfl
            have uz := (HX1.out.2.1.next hb).2
            clear hb HX1 t1 t4 t5 t6 tz
            cases e5 : goodT V.e V.s
            · go_wp2
              go_ret
              exact ⟨ret_bool (by rw [HT2.out, e5]; rfl), H4.out⟩
            · go_wp2
              go_ret
              exact ⟨ret_bool (by rw [HT2.out, e5]; rfl), H4.out⟩

      · -- false false true
        have HM : Hid (mayB V.st = false) := by show _ = _; rw [mayB, e2, e3]; rfl
        have HB : Hid (hasB V.st = true) := by show _ = _; rw [hasB, e3, e4]; rfl
        go_wp2
        clear v1 v3 vz
        go_loopw [93] (fun x wr => ∃ i : Nat, i ≤ V.cn ∧ x = .int .i64 i ∧ cellsP V.cl i ∧ (∀ j : Nat, j < i → True) ∧ L5H w [.int .i64 S.ep, .slice ra S.rn rc, .slice (some ⟨b, off, none⟩) S.tn tc, .slice oa S.on oc] [.int .i64 V.id, .int .i64 V.st, .slice la V.ln lc, .slice ca V.cn cc, .int .i64 V.e, .int .i64 V.s, .bool V.b] wr) (fun x _ => V.cn - (intOf x).toNat)
        case atStart => exact ⟨0, Nat.zero_le _, rfl, fun j hj => absurd hj (by omega), fun j hj => absurd hj (by omega), HX1.out⟩
        case round =>
          obtain ⟨i, hi, rfl, hall, hown, hL⟩ := hrel
          clear HX1
          by_cases hic : i < V.cn
          · rcases HS.out.2.1.below hL.2.2 (Nat.le_refl _) with h | ⟨b2, o2, rfl, hbs2, hE⟩
            · omega
            have hic' : (i : Int) < (V.cn : Int) := by omega
            obtain ⟨c0, c1⟩ := cell_cells hE hic
            have hd : Below wr.heap.size wr (wr.alloc (.cells #[.string (V.cl i).f0, .string (V.cl i).f1] 55)).drew := (Go.Joins.below_alloc1 _ _).drew
            have H1 : Hid (Bx (wr.alloc (.cells #[.string (V.cl i).f0, .string (V.cl i).f1] 55)).drew wr.heap.size [.string (V.cl i).f0, .string (V.cl i).f1] ∧ Bx (wr.alloc (.cells #[.string (V.cl i).f0, .string (V.cl i).f1] 55)).drew w.heap.size [.int .i64 S.ep, .slice ra S.rn rc, .slice (some ⟨b, off, none⟩) S.tn tc, .slice oa S.on oc] ∧ Bx (wr.alloc (.cells #[.string (V.cl i).f0, .string (V.cl i).f1] 55)).drew (w.heap.size + 1) [.int .i64 V.id, .int .i64 V.st, .slice la V.ln lc, .slice (some ⟨b2, o2, none⟩) V.cn cc, .int .i64 V.e, .int .i64 V.s, .bool V.b] ∧ Below w.heap.size w (wr.alloc (.cells #[.string (V.cl i).f0, .string (V.cl i).f1] 55)).drew ∧ cellsP V.cl i ∧ (∀ j : Nat, j < i → True)) := ⟨(Bx.new wr [.string (V.cl i).f0, .string (V.cl i).f1] 55).next (Below.refl _ _).drew, hL.1.next hd, hL.2.1.next hd, below_next' hL.2.2 hd, hall, hown⟩
            have HE : Hid (∀ q, q < V.cn → (wr.alloc (.cells #[.string (V.cl i).f0, .string (V.cl i).f1] 55)).drew.cell? ⟨b2, o2 + q * 2, none⟩ = some (.string (V.cl q).f0)) := fun q hq => (hd.cell (p := ⟨b2, o2 + q * 2, none⟩) hbs2).trans (cell_cells hE hq).1
            clear hall hown hL hE hd
            have hz := HS.out.1.2.2.2 i hic
            cases e1 : keyOk (V.cl i).f0
            · have HK : Hid (∀ W, Calls Tryz.prog 50 #[.string (V.cl i).f0] W fun r w' => r = .returned (.bool false) ∧ w' = W) := fun W => by have := l1Key_any (V.cl i).f0 W hz.1; rw [e1] at this; exact this
              have HN : Hid (clB (txnV S V k) = false) := no_cl hic (fun g => by rw [g.1.1] at e1; cases e1)
              clear HE
              go_upto_region 20 with fail
              refine wp_region_noPanic ?_
              refine wp_region_held_drew (S := fun W => Bx W wr.heap.size [.string (V.cl i).f0, .string (V.cl i).f1] ∧ Bx W (w.heap.size + 1) [.int .i64 V.id, .int .i64 V.st, .slice la V.ln lc, .slice (some ⟨b2, o2, none⟩) V.cn cc, .int .i64 V.e, .int .i64 V.s, .bool V.b]) (by kernel_rfl) ⟨H1.out.1, H1.out.2.2.1⟩ (fun hHeld => ?_)
              refine take_v (v := ?_) 0 ⟨some 98, Op.fieldAddr 55 (Operand.tmp 12) 0, _, _, _, none⟩ rfl (fun _ _ _ h => h) ?_ hHeld ?_
              rotate_left
              · (intro W _; go_simp <;> (try with_reducible rfl))
              refine take_v (v := ?_) 1 ⟨some 99, Op.load 9 (Operand.tmp 98), _, _, _, none⟩ rfl (fun _ _ _ h => h) ?_ hHeld ?_
              rotate_left
              · (intro W hSW; (have s0 := hSW.1.cell 0 rfl; have s1 := hSW.1.cell 1 rfl; have s2 := hSW.1.2; have s3 := hSW.2.cell 3 rfl; have s4 := hSW.2.2); go_simp <;> (try with_reducible rfl))
              refine ready_call 2 ⟨some 100, Op.call { callee := Callee.value (Operand.func 50), args := #[Operand.tmp 99], argTypes := #[9] }, _, _, _, none⟩ (by kernel_rfl) rfl (by kernel_rfl) (fun KC hK => ?_)
              go_wp2_with fail
              refine (HK.out _).mono ?_
              rintro r w2 ⟨rfl, rfl⟩
              refine hK.out _ _ hHeld (fun hHeld => ?_)
              clear hK KC
              refine take_v (v := ?_) 3 ⟨some 101, Op.unOp UnOp.not 4 (Operand.tmp 100), _, _, _, none⟩ rfl (fun _ _ _ h => h) ?_ hHeld ?_
              rotate_left
              · (intro W _; go_simp <;> (try with_reducible rfl))
              refine take_v (v := ?_) 4 ⟨some 102, Op.move (Operand.tmp 101), _, _, _, none⟩ rfl (fun _ _ _ h => h) ?_ hHeld ?_
              rotate_left
              · (intro W _; go_simp <;> (try with_reducible rfl))
              refine take_n 5 ⟨some 103, Op.fieldAddr 55 (Operand.tmp 12) 1, _, _, _, some (4, false)⟩ rfl (fun _ _ _ h => h) hHeld ?_
              refine take_n 6 ⟨some 104, Op.load 9 (Operand.tmp 103), _, _, _, some (4, false)⟩ rfl (fun _ _ _ h => h) hHeld ?_
              refine take_n 7 ⟨some 105, Op.call { callee := Callee.value (Operand.func 51), args := #[Operand.tmp 104], argTypes := #[9] }, _, _, _, some (4, false)⟩ rfl (fun _ _ _ h => h) hHeld ?_
              refine take_n 8 ⟨some 106, Op.unOp UnOp.not 4 (Operand.tmp 105), _, _, _, some (4, false)⟩ rfl (fun _ _ _ h => h) hHeld ?_
              refine take_v (v := ?_) 9 ⟨some 107, Op.pick (Operand.tmp 102) (Operand.const (Value.bool true)) (Operand.tmp 106), _, _, _, none⟩ rfl (fun _ _ _ h => h) ?_ hHeld ?_
              rotate_left
              · (intro W _; go_simp <;> (try with_reducible rfl))
              refine take_v (v := ?_) 10 ⟨some 108, Op.move (Operand.tmp 107), _, _, _, none⟩ rfl (fun _ _ _ h => h) ?_ hHeld ?_
              rotate_left
              · (intro W _; go_simp <;> (try with_reducible rfl))
              refine take_n 11 ⟨some 109, Op.move (Operand.tmp 11), _, _, _, some (10, false)⟩ rfl (fun _ _ _ h => h) hHeld ?_
              refine take_n 12 ⟨some 110, Op.binOp BinOp.gtr 3 (Operand.tmp 109) (Operand.const (Value.int IntKind.i64 0)) 3, _, _, _, some (10, false)⟩ rfl (fun _ _ _ h => h) hHeld ?_
              refine take_n 13 ⟨some 111, Op.move (Operand.tmp 110), _, _, _, some (10, false)⟩ rfl (fun _ _ _ h => h) hHeld ?_
              refine take_n 14 ⟨some 112, Op.fieldAddr 71 (Operand.tmp 5) 3, _, _, _, some (13, true)⟩ rfl (fun _ _ _ h => h) hHeld ?_
              refine take_n 15 ⟨some 113, Op.load 28 (Operand.tmp 112), _, _, _, some (13, true)⟩ rfl (fun _ _ _ h => h) hHeld ?_
              refine take_n 16 ⟨some 114, Op.move (Operand.tmp 11), _, _, _, some (13, true)⟩ rfl (fun _ _ _ h => h) hHeld ?_
              refine take_n 17 ⟨some 115, Op.binOp BinOp.sub 3 (Operand.tmp 114) (Operand.const (Value.int IntKind.i64 1)) 3, _, _, _, some (13, true)⟩ rfl (fun _ _ _ h => h) hHeld ?_
              refine take_n 18 ⟨some 116, Op.indexAddr 28 (Operand.tmp 113) (Operand.tmp 115), _, _, _, some (13, true)⟩ rfl (fun _ _ _ h => h) hHeld ?_
              refine take_n 19 ⟨some 117, Op.fieldAddr 55 (Operand.tmp 116) 0, _, _, _, some (13, true)⟩ rfl (fun _ _ _ h => h) hHeld ?_
              refine take_n 20 ⟨some 118, Op.load 9 (Operand.tmp 117), _, _, _, some (13, true)⟩ rfl (fun _ _ _ h => h) hHeld ?_
              refine take_n 21 ⟨some 119, Op.fieldAddr 55 (Operand.tmp 12) 0, _, _, _, some (13, true)⟩ rfl (fun _ _ _ h => h) hHeld ?_
              refine take_n 22 ⟨some 120, Op.load 9 (Operand.tmp 119), _, _, _, some (13, true)⟩ rfl (fun _ _ _ h => h) hHeld ?_
              refine take_n 23 ⟨some 121, Op.binOp BinOp.geq 9 (Operand.tmp 118) (Operand.tmp 120) 9, _, _, _, some (13, true)⟩ rfl (fun _ _ _ h => h) hHeld ?_
              refine take_n 24 ⟨some 122, Op.pick (Operand.tmp 111) (Operand.tmp 121) (Operand.const (Value.bool false)), _, _, _, some (10, false)⟩ rfl (fun _ _ _ h => h) hHeld ?_
              refine take_v (v := ?_) 25 ⟨some 123, Op.pick (Operand.tmp 108) (Operand.const (Value.bool true)) (Operand.tmp 122), _, _, _, none⟩ rfl (fun _ _ _ h => h) ?_ hHeld ?_
              rotate_left
              · (intro W _; go_simp <;> (try with_reducible rfl))
              refine wpAnyH_done (by kernel_rfl) ?_ _
              refine NoPanic.normal ?_
              go_wp2
              go_ret
              exact ⟨ret_bool HN.out.symm, H1.out.2.2.2.1⟩
            have HK : Hid (∀ W, Calls Tryz.prog 50 #[.string (V.cl i).f0] W fun r w' => r = .returned (.bool true) ∧ w' = W) := fun W => by have := l1Key_any (V.cl i).f0 W hz.1; rw [e1] at this; exact this
            cases e2' : valOk (V.cl i).f1
            · have HL : Hid (∀ W, Calls Tryz.prog 51 #[.string (V.cl i).f1] W fun r w' => r = .returned (.bool false) ∧ w' = W) := fun W => by have := l1Value_any (V.cl i).f1 W hz.2; rw [e2'] at this; exact this
              have HN : Hid (clB (txnV S V k) = false) := no_cl hic (fun g => by rw [g.1.2] at e2'; cases e2')
              clear HE
              go_upto_region 20 with fail
              refine wp_region_noPanic ?_
              refine wp_region_held_drew (S := fun W => Bx W wr.heap.size [.string (V.cl i).f0, .string (V.cl i).f1] ∧ Bx W (w.heap.size + 1) [.int .i64 V.id, .int .i64 V.st, .slice la V.ln lc, .slice (some ⟨b2, o2, none⟩) V.cn cc, .int .i64 V.e, .int .i64 V.s, .bool V.b]) (by kernel_rfl) ⟨H1.out.1, H1.out.2.2.1⟩ (fun hHeld => ?_)
              refine take_v (v := ?_) 0 ⟨some 98, Op.fieldAddr 55 (Operand.tmp 12) 0, _, _, _, none⟩ rfl (fun _ _ _ h => h) ?_ hHeld ?_
              rotate_left
              · (intro W _; go_simp <;> (try with_reducible rfl))
              refine take_v (v := ?_) 1 ⟨some 99, Op.load 9 (Operand.tmp 98), _, _, _, none⟩ rfl (fun _ _ _ h => h) ?_ hHeld ?_
              rotate_left
              · (intro W hSW; (have s0 := hSW.1.cell 0 rfl; have s1 := hSW.1.cell 1 rfl; have s2 := hSW.1.2; have s3 := hSW.2.cell 3 rfl; have s4 := hSW.2.2); go_simp <;> (try with_reducible rfl))
              refine ready_call 2 ⟨some 100, Op.call { callee := Callee.value (Operand.func 50), args := #[Operand.tmp 99], argTypes := #[9] }, _, _, _, none⟩ (by kernel_rfl) rfl (by kernel_rfl) (fun KC hK => ?_)
              go_wp2_with fail
              refine (HK.out _).mono ?_
              rintro r w2 ⟨rfl, rfl⟩
              refine hK.out _ _ hHeld (fun hHeld => ?_)
              clear hK KC
              refine take_v (v := ?_) 3 ⟨some 101, Op.unOp UnOp.not 4 (Operand.tmp 100), _, _, _, none⟩ rfl (fun _ _ _ h => h) ?_ hHeld ?_
              rotate_left
              · (intro W _; go_simp <;> (try with_reducible rfl))
              refine take_v (v := ?_) 4 ⟨some 102, Op.move (Operand.tmp 101), _, _, _, none⟩ rfl (fun _ _ _ h => h) ?_ hHeld ?_
              rotate_left
              · (intro W _; go_simp <;> (try with_reducible rfl))
              refine take_v (v := ?_) 5 ⟨some 103, Op.fieldAddr 55 (Operand.tmp 12) 1, _, _, _, some (4, false)⟩ rfl (fun _ _ _ h => h) ?_ hHeld ?_
              rotate_left
              · (intro W _; go_simp <;> (try with_reducible rfl))
              refine take_v (v := ?_) 6 ⟨some 104, Op.load 9 (Operand.tmp 103), _, _, _, some (4, false)⟩ rfl (fun _ _ _ h => h) ?_ hHeld ?_
              rotate_left
              · (intro W hSW; (have s0 := hSW.1.cell 0 rfl; have s1 := hSW.1.cell 1 rfl; have s2 := hSW.1.2; have s3 := hSW.2.cell 3 rfl; have s4 := hSW.2.2); go_simp <;> (try with_reducible rfl))
              refine ready_call 7 ⟨some 105, Op.call { callee := Callee.value (Operand.func 51), args := #[Operand.tmp 104], argTypes := #[9] }, _, _, _, some (4, false)⟩ (by kernel_rfl) rfl (by kernel_rfl) (fun KC hK => ?_)
              go_wp2_with fail
              refine (HL.out _).mono ?_
              rintro r w2 ⟨rfl, rfl⟩
              refine hK.out _ _ hHeld (fun hHeld => ?_)
              clear hK KC
              refine take_v (v := ?_) 8 ⟨some 106, Op.unOp UnOp.not 4 (Operand.tmp 105), _, _, _, some (4, false)⟩ rfl (fun _ _ _ h => h) ?_ hHeld ?_
              rotate_left
              · (intro W _; go_simp <;> (try with_reducible rfl))
              refine take_v (v := ?_) 9 ⟨some 107, Op.pick (Operand.tmp 102) (Operand.const (Value.bool true)) (Operand.tmp 106), _, _, _, none⟩ rfl (fun _ _ _ h => h) ?_ hHeld ?_
              rotate_left
              · (intro W _; go_simp <;> (try with_reducible rfl))
              refine take_v (v := ?_) 10 ⟨some 108, Op.move (Operand.tmp 107), _, _, _, none⟩ rfl (fun _ _ _ h => h) ?_ hHeld ?_
              rotate_left
              · (intro W _; go_simp <;> (try with_reducible rfl))
              refine take_n 11 ⟨some 109, Op.move (Operand.tmp 11), _, _, _, some (10, false)⟩ rfl (fun _ _ _ h => h) hHeld ?_
              refine take_n 12 ⟨some 110, Op.binOp BinOp.gtr 3 (Operand.tmp 109) (Operand.const (Value.int IntKind.i64 0)) 3, _, _, _, some (10, false)⟩ rfl (fun _ _ _ h => h) hHeld ?_
              refine take_n 13 ⟨some 111, Op.move (Operand.tmp 110), _, _, _, some (10, false)⟩ rfl (fun _ _ _ h => h) hHeld ?_
              refine take_n 14 ⟨some 112, Op.fieldAddr 71 (Operand.tmp 5) 3, _, _, _, some (13, true)⟩ rfl (fun _ _ _ h => h) hHeld ?_
              refine take_n 15 ⟨some 113, Op.load 28 (Operand.tmp 112), _, _, _, some (13, true)⟩ rfl (fun _ _ _ h => h) hHeld ?_
              refine take_n 16 ⟨some 114, Op.move (Operand.tmp 11), _, _, _, some (13, true)⟩ rfl (fun _ _ _ h => h) hHeld ?_
              refine take_n 17 ⟨some 115, Op.binOp BinOp.sub 3 (Operand.tmp 114) (Operand.const (Value.int IntKind.i64 1)) 3, _, _, _, some (13, true)⟩ rfl (fun _ _ _ h => h) hHeld ?_
              refine take_n 18 ⟨some 116, Op.indexAddr 28 (Operand.tmp 113) (Operand.tmp 115), _, _, _, some (13, true)⟩ rfl (fun _ _ _ h => h) hHeld ?_
              refine take_n 19 ⟨some 117, Op.fieldAddr 55 (Operand.tmp 116) 0, _, _, _, some (13, true)⟩ rfl (fun _ _ _ h => h) hHeld ?_
              refine take_n 20 ⟨some 118, Op.load 9 (Operand.tmp 117), _, _, _, some (13, true)⟩ rfl (fun _ _ _ h => h) hHeld ?_
              refine take_n 21 ⟨some 119, Op.fieldAddr 55 (Operand.tmp 12) 0, _, _, _, some (13, true)⟩ rfl (fun _ _ _ h => h) hHeld ?_
              refine take_n 22 ⟨some 120, Op.load 9 (Operand.tmp 119), _, _, _, some (13, true)⟩ rfl (fun _ _ _ h => h) hHeld ?_
              refine take_n 23 ⟨some 121, Op.binOp BinOp.geq 9 (Operand.tmp 118) (Operand.tmp 120) 9, _, _, _, some (13, true)⟩ rfl (fun _ _ _ h => h) hHeld ?_
              refine take_n 24 ⟨some 122, Op.pick (Operand.tmp 111) (Operand.tmp 121) (Operand.const (Value.bool false)), _, _, _, some (10, false)⟩ rfl (fun _ _ _ h => h) hHeld ?_
              refine take_v (v := ?_) 25 ⟨some 123, Op.pick (Operand.tmp 108) (Operand.const (Value.bool true)) (Operand.tmp 122), _, _, _, none⟩ rfl (fun _ _ _ h => h) ?_ hHeld ?_
              rotate_left
              · (intro W _; go_simp <;> (try with_reducible rfl))
              refine wpAnyH_done (by kernel_rfl) ?_ _
              refine NoPanic.normal ?_
              go_wp2
              go_ret
              exact ⟨ret_bool HN.out.symm, H1.out.2.2.2.1⟩
            have HL : Hid (∀ W, Calls Tryz.prog 51 #[.string (V.cl i).f1] W fun r w' => r = .returned (.bool true) ∧ w' = W) := fun W => by have := l1Value_any (V.cl i).f1 W hz.2; rw [e2'] at this; exact this
            by_cases hk0 : i = 0
            · have hk0' : decide ((0 : Int) < (i : Int)) = false := by simp; omega
              have hk0n : decide (0 < i) = false := by simp; omega
              have HY : Hid (cell1 V.cl i) := ⟨⟨e1, e2'⟩, fun h => absurd h (by omega)⟩
              clear HE hk0
              go_upto_region 20 with fail
              refine wp_region_noPanic ?_
              refine wp_region_held_drew (S := fun W => Bx W wr.heap.size [.string (V.cl i).f0, .string (V.cl i).f1] ∧ Bx W (w.heap.size + 1) [.int .i64 V.id, .int .i64 V.st, .slice la V.ln lc, .slice (some ⟨b2, o2, none⟩) V.cn cc, .int .i64 V.e, .int .i64 V.s, .bool V.b]) (by kernel_rfl) ⟨H1.out.1, H1.out.2.2.1⟩ (fun hHeld => ?_)
              refine take_v (v := ?_) 0 ⟨some 98, Op.fieldAddr 55 (Operand.tmp 12) 0, _, _, _, none⟩ rfl (fun _ _ _ h => h) ?_ hHeld ?_
              rotate_left
              · (intro W _; go_simp <;> (try with_reducible rfl))
              refine take_v (v := ?_) 1 ⟨some 99, Op.load 9 (Operand.tmp 98), _, _, _, none⟩ rfl (fun _ _ _ h => h) ?_ hHeld ?_
              rotate_left
              · (intro W hSW; (have s0 := hSW.1.cell 0 rfl; have s1 := hSW.1.cell 1 rfl; have s2 := hSW.1.2; have s3 := hSW.2.cell 3 rfl; have s4 := hSW.2.2); go_simp <;> (try with_reducible rfl))
              refine ready_call 2 ⟨some 100, Op.call { callee := Callee.value (Operand.func 50), args := #[Operand.tmp 99], argTypes := #[9] }, _, _, _, none⟩ (by kernel_rfl) rfl (by kernel_rfl) (fun KC hK => ?_)
              go_wp2_with fail
              refine (HK.out _).mono ?_
              rintro r w2 ⟨rfl, rfl⟩
              refine hK.out _ _ hHeld (fun hHeld => ?_)
              clear hK KC
              refine take_v (v := ?_) 3 ⟨some 101, Op.unOp UnOp.not 4 (Operand.tmp 100), _, _, _, none⟩ rfl (fun _ _ _ h => h) ?_ hHeld ?_
              rotate_left
              · (intro W _; go_simp <;> (try with_reducible rfl))
              refine take_v (v := ?_) 4 ⟨some 102, Op.move (Operand.tmp 101), _, _, _, none⟩ rfl (fun _ _ _ h => h) ?_ hHeld ?_
              rotate_left
              · (intro W _; go_simp <;> (try with_reducible rfl))
              refine take_v (v := ?_) 5 ⟨some 103, Op.fieldAddr 55 (Operand.tmp 12) 1, _, _, _, some (4, false)⟩ rfl (fun _ _ _ h => h) ?_ hHeld ?_
              rotate_left
              · (intro W _; go_simp <;> (try with_reducible rfl))
              refine take_v (v := ?_) 6 ⟨some 104, Op.load 9 (Operand.tmp 103), _, _, _, some (4, false)⟩ rfl (fun _ _ _ h => h) ?_ hHeld ?_
              rotate_left
              · (intro W hSW; (have s0 := hSW.1.cell 0 rfl; have s1 := hSW.1.cell 1 rfl; have s2 := hSW.1.2; have s3 := hSW.2.cell 3 rfl; have s4 := hSW.2.2); go_simp <;> (try with_reducible rfl))
              refine ready_call 7 ⟨some 105, Op.call { callee := Callee.value (Operand.func 51), args := #[Operand.tmp 104], argTypes := #[9] }, _, _, _, some (4, false)⟩ (by kernel_rfl) rfl (by kernel_rfl) (fun KC hK => ?_)
              go_wp2_with fail
              refine (HL.out _).mono ?_
              rintro r w2 ⟨rfl, rfl⟩
              refine hK.out _ _ hHeld (fun hHeld => ?_)
              clear hK KC
              refine take_v (v := ?_) 8 ⟨some 106, Op.unOp UnOp.not 4 (Operand.tmp 105), _, _, _, some (4, false)⟩ rfl (fun _ _ _ h => h) ?_ hHeld ?_
              rotate_left
              · (intro W _; go_simp <;> (try with_reducible rfl))
              refine take_v (v := ?_) 9 ⟨some 107, Op.pick (Operand.tmp 102) (Operand.const (Value.bool true)) (Operand.tmp 106), _, _, _, none⟩ rfl (fun _ _ _ h => h) ?_ hHeld ?_
              rotate_left
              · (intro W _; go_simp <;> (try with_reducible rfl))
              refine take_v (v := ?_) 10 ⟨some 108, Op.move (Operand.tmp 107), _, _, _, none⟩ rfl (fun _ _ _ h => h) ?_ hHeld ?_
              rotate_left
              · (intro W _; go_simp <;> (try with_reducible rfl))
              refine take_v (v := ?_) 11 ⟨some 109, Op.move (Operand.tmp 11), _, _, _, some (10, false)⟩ rfl (fun _ _ _ h => h) ?_ hHeld ?_
              rotate_left
              · (intro W _; go_simp <;> (try with_reducible rfl))
              refine take_v (v := ?_) 12 ⟨some 110, Op.binOp BinOp.gtr 3 (Operand.tmp 109) (Operand.const (Value.int IntKind.i64 0)) 3, _, _, _, some (10, false)⟩ rfl (fun _ _ _ h => h) ?_ hHeld ?_
              rotate_left
              · (intro W _; go_simp <;> (try with_reducible rfl))
              refine take_v (v := ?_) 13 ⟨some 111, Op.move (Operand.tmp 110), _, _, _, some (10, false)⟩ rfl (fun _ _ _ h => h) ?_ hHeld ?_
              rotate_left
              · (intro W _; go_simp <;> (try with_reducible rfl))
              refine take_n 14 ⟨some 112, Op.fieldAddr 71 (Operand.tmp 5) 3, _, _, _, some (13, true)⟩ rfl (fun _ _ _ h => h) hHeld ?_
              refine take_n 15 ⟨some 113, Op.load 28 (Operand.tmp 112), _, _, _, some (13, true)⟩ rfl (fun _ _ _ h => h) hHeld ?_
              refine take_n 16 ⟨some 114, Op.move (Operand.tmp 11), _, _, _, some (13, true)⟩ rfl (fun _ _ _ h => h) hHeld ?_
              refine take_n 17 ⟨some 115, Op.binOp BinOp.sub 3 (Operand.tmp 114) (Operand.const (Value.int IntKind.i64 1)) 3, _, _, _, some (13, true)⟩ rfl (fun _ _ _ h => h) hHeld ?_
              refine take_n 18 ⟨some 116, Op.indexAddr 28 (Operand.tmp 113) (Operand.tmp 115), _, _, _, some (13, true)⟩ rfl (fun _ _ _ h => h) hHeld ?_
              refine take_n 19 ⟨some 117, Op.fieldAddr 55 (Operand.tmp 116) 0, _, _, _, some (13, true)⟩ rfl (fun _ _ _ h => h) hHeld ?_
              refine take_n 20 ⟨some 118, Op.load 9 (Operand.tmp 117), _, _, _, some (13, true)⟩ rfl (fun _ _ _ h => h) hHeld ?_
              refine take_n 21 ⟨some 119, Op.fieldAddr 55 (Operand.tmp 12) 0, _, _, _, some (13, true)⟩ rfl (fun _ _ _ h => h) hHeld ?_
              refine take_n 22 ⟨some 120, Op.load 9 (Operand.tmp 119), _, _, _, some (13, true)⟩ rfl (fun _ _ _ h => h) hHeld ?_
              refine take_n 23 ⟨some 121, Op.binOp BinOp.geq 9 (Operand.tmp 118) (Operand.tmp 120) 9, _, _, _, some (13, true)⟩ rfl (fun _ _ _ h => h) hHeld ?_
              refine take_v (v := ?_) 24 ⟨some 122, Op.pick (Operand.tmp 111) (Operand.tmp 121) (Operand.const (Value.bool false)), _, _, _, some (10, false)⟩ rfl (fun _ _ _ h => h) ?_ hHeld ?_
              rotate_left
              · (intro W _; go_simp <;> (try with_reducible rfl))
              refine take_v (v := ?_) 25 ⟨some 123, Op.pick (Operand.tmp 108) (Operand.const (Value.bool true)) (Operand.tmp 122), _, _, _, none⟩ rfl (fun _ _ _ h => h) ?_ hHeld ?_
              rotate_left
              · (intro W _; go_simp <;> (try with_reducible rfl))
              refine wpAnyH_done (by kernel_rfl) ?_ _
              refine NoPanic.normal ?_
              have b0 := H1.out.2.1.cell 0 rfl
              have b1' := H1.out.2.1.cell 1 rfl
              have b2' := H1.out.2.1.cell 2 rfl
              have b3' := H1.out.2.1.cell 3 rfl
              have bz := H1.out.2.1.2
              have k0 := H1.out.1.cell 0 rfl
              have kz := H1.out.1.2
              go_wp2_with fail
              refine (l5Find_at ra rc (some ⟨b, off, none⟩) tc oa oc S (V.cl i).f0 _ HS.out.2.2.2.1 (HS.out.2.2.1.below H1.out.2.2.2.1 (Nat.le_refl _))).mono ?_
              rintro r w3 ⟨o, f, rfl, hF, hb⟩
              have HF := (show Hid (_ ∨ _) from hF)
              have H3 : Hid (L5H w [.int .i64 S.ep, .slice ra S.rn rc, .slice (some ⟨b, off, none⟩) S.tn tc, .slice oa S.on oc] [.int .i64 V.id, .int .i64 V.st, .slice la V.ln lc, .slice (some ⟨b2, o2, none⟩) V.cn cc, .int .i64 V.e, .int .i64 V.s, .bool V.b] w3 ∧ Below w.heap.size w (w3.alloc (.cells #[.string o.f0, .string o.f1, .int .i64 o.f2, .int .i64 o.f3, .bool o.f4, .int .i64 o.f5] 52)) ∧ L5H w [.int .i64 S.ep, .slice ra S.rn rc, .slice (some ⟨b, off, none⟩) S.tn tc, .slice oa S.on oc] [.int .i64 V.id, .int .i64 V.st, .slice la V.ln lc, .slice (some ⟨b2, o2, none⟩) V.cn cc, .int .i64 V.e, .int .i64 V.s, .bool V.b] (w3.alloc (.cells #[.string o.f0, .string o.f1, .int .i64 o.f2, .int .i64 o.f3, .bool o.f4, .int .i64 o.f5] 52))) := by
                have g : L5H w [.int .i64 S.ep, .slice ra S.rn rc, .slice (some ⟨b, off, none⟩) S.tn tc, .slice oa S.on oc] [.int .i64 V.id, .int .i64 V.st, .slice la V.ln lc, .slice (some ⟨b2, o2, none⟩) V.cn cc, .int .i64 V.e, .int .i64 V.s, .bool V.b] w3 := ⟨H1.out.2.1.next hb, H1.out.2.2.1.next hb, below_next' H1.out.2.2.2.1 hb⟩
                exact ⟨g, below_next' g.2.2 (Go.Joins.below_alloc1 _ _), g.next (Go.Joins.below_alloc1 _ _)⟩
              have HQ9 : Hid (cellsP V.cl i) := H1.out.2.2.2.2.1
              clear hF hb H1 b0 b1' b2' b3' bz k0 kz
              clear HF
              go_wp2
              go_roundw
              case rel => exact ⟨i + 1, by omega, by go_num, upto_succ HQ9.out HY.out, fun _ _ => trivial, H3.out.2.2⟩
              case measure => simp [intOf]; omega
            · obtain ⟨q, hq⟩ : ∃ q, q = i - 1 := ⟨_, rfl⟩
              have hwq : IntKind.i64.wrap ((i : Int) - 1) = (q : Int) := by rw [IntKind.wrap_i64]; omega
              have HQ : Hid (i = q + 1) := by show i = q + 1; omega
              have hq0 : (0 : Int) < (i : Int) := by omega
              have hq0n : decide (0 < i) = true := by simp; omega
              have hqn : (q : Int) < (V.cn : Int) := by omega
              have HQ1 := (show Hid _ from HE.out q (by omega))
              clear HE hk0 hq
              have HC : Hid (cell1 V.cl i ↔ Op.bytesLess (V.cl q).f0.toList (V.cl i).f0.toList = true) := by
                show _ ↔ _
                have : i - 1 = q := by have := HQ.out; omega
                constructor
                · intro g; have := g.2 (by omega); rwa [‹i - 1 = q›] at this
                · intro g; exact ⟨⟨e1, e2'⟩, fun _ => by rw [‹i - 1 = q›]; exact g⟩
              cases e3' : Op.bytesLess (V.cl q).f0.toList (V.cl i).f0.toList
              · have HN : Hid (clB (txnV S V k) = false) := no_cl hic (fun g => by rw [HC.out.1 g] at e3'; cases e3')
                go_upto_region 20 with fail
                refine wp_region_noPanic ?_
                refine wp_region_held_drew (S := fun W => Bx W wr.heap.size [.string (V.cl i).f0, .string (V.cl i).f1] ∧ Bx W (w.heap.size + 1) [.int .i64 V.id, .int .i64 V.st, .slice la V.ln lc, .slice (some ⟨b2, o2, none⟩) V.cn cc, .int .i64 V.e, .int .i64 V.s, .bool V.b] ∧ W.cell? ⟨b2, o2 + q * 2, none⟩ = some (.string (V.cl q).f0)) (by kernel_rfl) ⟨H1.out.1, H1.out.2.2.1, HQ1.out⟩ (fun hHeld => ?_)
                refine take_v (v := ?_) 0 ⟨some 98, Op.fieldAddr 55 (Operand.tmp 12) 0, _, _, _, none⟩ rfl (fun _ _ _ h => h) ?_ hHeld ?_
                rotate_left
                · (intro W _; go_simp <;> (try with_reducible rfl))
                refine take_v (v := ?_) 1 ⟨some 99, Op.load 9 (Operand.tmp 98), _, _, _, none⟩ rfl (fun _ _ _ h => h) ?_ hHeld ?_
                rotate_left
                · (intro W hSW; (have s0 := hSW.1.cell 0 rfl; have s1 := hSW.1.cell 1 rfl; have s2 := hSW.1.2; have s3 := hSW.2.1.cell 3 rfl; have s4 := hSW.2.1.2; have s5 := hSW.2.2); go_simp <;> (try with_reducible rfl))
                refine ready_call 2 ⟨some 100, Op.call { callee := Callee.value (Operand.func 50), args := #[Operand.tmp 99], argTypes := #[9] }, _, _, _, none⟩ (by kernel_rfl) rfl (by kernel_rfl) (fun KC hK => ?_)
                go_wp2_with fail
                refine (HK.out _).mono ?_
                rintro r w2 ⟨rfl, rfl⟩
                refine hK.out _ _ hHeld (fun hHeld => ?_)
                clear hK KC
                refine take_v (v := ?_) 3 ⟨some 101, Op.unOp UnOp.not 4 (Operand.tmp 100), _, _, _, none⟩ rfl (fun _ _ _ h => h) ?_ hHeld ?_
                rotate_left
                · (intro W _; go_simp <;> (try with_reducible rfl))
                refine take_v (v := ?_) 4 ⟨some 102, Op.move (Operand.tmp 101), _, _, _, none⟩ rfl (fun _ _ _ h => h) ?_ hHeld ?_
                rotate_left
                · (intro W _; go_simp <;> (try with_reducible rfl))
                refine take_v (v := ?_) 5 ⟨some 103, Op.fieldAddr 55 (Operand.tmp 12) 1, _, _, _, some (4, false)⟩ rfl (fun _ _ _ h => h) ?_ hHeld ?_
                rotate_left
                · (intro W _; go_simp <;> (try with_reducible rfl))
                refine take_v (v := ?_) 6 ⟨some 104, Op.load 9 (Operand.tmp 103), _, _, _, some (4, false)⟩ rfl (fun _ _ _ h => h) ?_ hHeld ?_
                rotate_left
                · (intro W hSW; (have s0 := hSW.1.cell 0 rfl; have s1 := hSW.1.cell 1 rfl; have s2 := hSW.1.2; have s3 := hSW.2.1.cell 3 rfl; have s4 := hSW.2.1.2; have s5 := hSW.2.2); go_simp <;> (try with_reducible rfl))
                refine ready_call 7 ⟨some 105, Op.call { callee := Callee.value (Operand.func 51), args := #[Operand.tmp 104], argTypes := #[9] }, _, _, _, some (4, false)⟩ (by kernel_rfl) rfl (by kernel_rfl) (fun KC hK => ?_)
                go_wp2_with fail
                refine (HL.out _).mono ?_
                rintro r w2 ⟨rfl, rfl⟩
                refine hK.out _ _ hHeld (fun hHeld => ?_)
                clear hK KC
                refine take_v (v := ?_) 8 ⟨some 106, Op.unOp UnOp.not 4 (Operand.tmp 105), _, _, _, some (4, false)⟩ rfl (fun _ _ _ h => h) ?_ hHeld ?_
                rotate_left
                · (intro W _; go_simp <;> (try with_reducible rfl))
                refine take_v (v := ?_) 9 ⟨some 107, Op.pick (Operand.tmp 102) (Operand.const (Value.bool true)) (Operand.tmp 106), _, _, _, none⟩ rfl (fun _ _ _ h => h) ?_ hHeld ?_
                rotate_left
                · (intro W _; go_simp <;> (try with_reducible rfl))
                refine take_v (v := ?_) 10 ⟨some 108, Op.move (Operand.tmp 107), _, _, _, none⟩ rfl (fun _ _ _ h => h) ?_ hHeld ?_
                rotate_left
                · (intro W _; go_simp <;> (try with_reducible rfl))
                refine take_v (v := ?_) 11 ⟨some 109, Op.move (Operand.tmp 11), _, _, _, some (10, false)⟩ rfl (fun _ _ _ h => h) ?_ hHeld ?_
                rotate_left
                · (intro W _; go_simp <;> (try with_reducible rfl))
                refine take_v (v := ?_) 12 ⟨some 110, Op.binOp BinOp.gtr 3 (Operand.tmp 109) (Operand.const (Value.int IntKind.i64 0)) 3, _, _, _, some (10, false)⟩ rfl (fun _ _ _ h => h) ?_ hHeld ?_
                rotate_left
                · (intro W _; go_simp <;> (try with_reducible rfl))
                refine take_v (v := ?_) 13 ⟨some 111, Op.move (Operand.tmp 110), _, _, _, some (10, false)⟩ rfl (fun _ _ _ h => h) ?_ hHeld ?_
                rotate_left
                · (intro W _; go_simp <;> (try with_reducible rfl))
                refine take_v (v := ?_) 14 ⟨some 112, Op.fieldAddr 71 (Operand.tmp 5) 3, _, _, _, some (13, true)⟩ rfl (fun _ _ _ h => h) ?_ hHeld ?_
                rotate_left
                · (intro W _; go_simp <;> (try with_reducible rfl))
                refine take_v (v := ?_) 15 ⟨some 113, Op.load 28 (Operand.tmp 112), _, _, _, some (13, true)⟩ rfl (fun _ _ _ h => h) ?_ hHeld ?_
                rotate_left
                · (intro W hSW; (have s0 := hSW.1.cell 0 rfl; have s1 := hSW.1.cell 1 rfl; have s2 := hSW.1.2; have s3 := hSW.2.1.cell 3 rfl; have s4 := hSW.2.1.2; have s5 := hSW.2.2); go_simp <;> (try with_reducible rfl))
                refine take_v (v := ?_) 16 ⟨some 114, Op.move (Operand.tmp 11), _, _, _, some (13, true)⟩ rfl (fun _ _ _ h => h) ?_ hHeld ?_
                rotate_left
                · (intro W _; go_simp <;> (try with_reducible rfl))
                refine take_v (v := ?_) 17 ⟨some 115, Op.binOp BinOp.sub 3 (Operand.tmp 114) (Operand.const (Value.int IntKind.i64 1)) 3, _, _, _, some (13, true)⟩ rfl (fun _ _ _ h => h) ?_ hHeld ?_
                rotate_left
                · (intro W _; go_simp <;> (try with_reducible rfl))
                refine take_v (v := ?_) 18 ⟨some 116, Op.indexAddr 28 (Operand.tmp 113) (Operand.tmp 115), _, _, _, some (13, true)⟩ rfl (fun _ _ _ h => h) ?_ hHeld ?_
                rotate_left
                · (intro W _; go_simp <;> (try with_reducible rfl))
                refine take_v (v := ?_) 19 ⟨some 117, Op.fieldAddr 55 (Operand.tmp 116) 0, _, _, _, some (13, true)⟩ rfl (fun _ _ _ h => h) ?_ hHeld ?_
                rotate_left
                · (intro W _; go_simp <;> (try with_reducible rfl))
                refine take_v (v := ?_) 20 ⟨some 118, Op.load 9 (Operand.tmp 117), _, _, _, some (13, true)⟩ rfl (fun _ _ _ h => h) ?_ hHeld ?_
                rotate_left
                · (intro W hSW; (have s0 := hSW.1.cell 0 rfl; have s1 := hSW.1.cell 1 rfl; have s2 := hSW.1.2; have s3 := hSW.2.1.cell 3 rfl; have s4 := hSW.2.1.2; have s5 := hSW.2.2); go_simp <;> (try with_reducible rfl))
                refine take_v (v := ?_) 21 ⟨some 119, Op.fieldAddr 55 (Operand.tmp 12) 0, _, _, _, some (13, true)⟩ rfl (fun _ _ _ h => h) ?_ hHeld ?_
                rotate_left
                · (intro W _; go_simp <;> (try with_reducible rfl))
                refine take_v (v := ?_) 22 ⟨some 120, Op.load 9 (Operand.tmp 119), _, _, _, some (13, true)⟩ rfl (fun _ _ _ h => h) ?_ hHeld ?_
                rotate_left
                · (intro W hSW; (have s0 := hSW.1.cell 0 rfl; have s1 := hSW.1.cell 1 rfl; have s2 := hSW.1.2; have s3 := hSW.2.1.cell 3 rfl; have s4 := hSW.2.1.2; have s5 := hSW.2.2); go_simp <;> (try with_reducible rfl))
                refine take_v (v := ?_) 23 ⟨some 121, Op.binOp BinOp.geq 9 (Operand.tmp 118) (Operand.tmp 120) 9, _, _, _, some (13, true)⟩ rfl (fun _ _ _ h => h) ?_ hHeld ?_
                rotate_left
                · (intro W _; go_simp <;> (try with_reducible rfl))
                refine take_v (v := ?_) 24 ⟨some 122, Op.pick (Operand.tmp 111) (Operand.tmp 121) (Operand.const (Value.bool false)), _, _, _, some (10, false)⟩ rfl (fun _ _ _ h => h) ?_ hHeld ?_
                rotate_left
                · (intro W _; go_simp <;> (try with_reducible rfl))
                refine take_v (v := ?_) 25 ⟨some 123, Op.pick (Operand.tmp 108) (Operand.const (Value.bool true)) (Operand.tmp 122), _, _, _, none⟩ rfl (fun _ _ _ h => h) ?_ hHeld ?_
                rotate_left
                · (intro W _; go_simp <;> (try with_reducible rfl))
                refine wpAnyH_done (by kernel_rfl) ?_ _
                refine NoPanic.normal ?_
                go_wp2
                go_ret
                exact ⟨ret_bool HN.out.symm, H1.out.2.2.2.1⟩
              · have HY : Hid (cell1 V.cl i) := HC.out.2 e3'
                go_upto_region 20 with fail
                refine wp_region_noPanic ?_
                refine wp_region_held_drew (S := fun W => Bx W wr.heap.size [.string (V.cl i).f0, .string (V.cl i).f1] ∧ Bx W (w.heap.size + 1) [.int .i64 V.id, .int .i64 V.st, .slice la V.ln lc, .slice (some ⟨b2, o2, none⟩) V.cn cc, .int .i64 V.e, .int .i64 V.s, .bool V.b] ∧ W.cell? ⟨b2, o2 + q * 2, none⟩ = some (.string (V.cl q).f0)) (by kernel_rfl) ⟨H1.out.1, H1.out.2.2.1, HQ1.out⟩ (fun hHeld => ?_)
                refine take_v (v := ?_) 0 ⟨some 98, Op.fieldAddr 55 (Operand.tmp 12) 0, _, _, _, none⟩ rfl (fun _ _ _ h => h) ?_ hHeld ?_
                rotate_left
                · (intro W _; go_simp <;> (try with_reducible rfl))
                refine take_v (v := ?_) 1 ⟨some 99, Op.load 9 (Operand.tmp 98), _, _, _, none⟩ rfl (fun _ _ _ h => h) ?_ hHeld ?_
                rotate_left
                · (intro W hSW; (have s0 := hSW.1.cell 0 rfl; have s1 := hSW.1.cell 1 rfl; have s2 := hSW.1.2; have s3 := hSW.2.1.cell 3 rfl; have s4 := hSW.2.1.2; have s5 := hSW.2.2); go_simp <;> (try with_reducible rfl))
                refine ready_call 2 ⟨some 100, Op.call { callee := Callee.value (Operand.func 50), args := #[Operand.tmp 99], argTypes := #[9] }, _, _, _, none⟩ (by kernel_rfl) rfl (by kernel_rfl) (fun KC hK => ?_)
                go_wp2_with fail
                refine (HK.out _).mono ?_
                rintro r w2 ⟨rfl, rfl⟩
                refine hK.out _ _ hHeld (fun hHeld => ?_)
                clear hK KC
                refine take_v (v := ?_) 3 ⟨some 101, Op.unOp UnOp.not 4 (Operand.tmp 100), _, _, _, none⟩ rfl (fun _ _ _ h => h) ?_ hHeld ?_
                rotate_left
                · (intro W _; go_simp <;> (try with_reducible rfl))
                refine take_v (v := ?_) 4 ⟨some 102, Op.move (Operand.tmp 101), _, _, _, none⟩ rfl (fun _ _ _ h => h) ?_ hHeld ?_
                rotate_left
                · (intro W _; go_simp <;> (try with_reducible rfl))
                refine take_v (v := ?_) 5 ⟨some 103, Op.fieldAddr 55 (Operand.tmp 12) 1, _, _, _, some (4, false)⟩ rfl (fun _ _ _ h => h) ?_ hHeld ?_
                rotate_left
                · (intro W _; go_simp <;> (try with_reducible rfl))
                refine take_v (v := ?_) 6 ⟨some 104, Op.load 9 (Operand.tmp 103), _, _, _, some (4, false)⟩ rfl (fun _ _ _ h => h) ?_ hHeld ?_
                rotate_left
                · (intro W hSW; (have s0 := hSW.1.cell 0 rfl; have s1 := hSW.1.cell 1 rfl; have s2 := hSW.1.2; have s3 := hSW.2.1.cell 3 rfl; have s4 := hSW.2.1.2; have s5 := hSW.2.2); go_simp <;> (try with_reducible rfl))
                refine ready_call 7 ⟨some 105, Op.call { callee := Callee.value (Operand.func 51), args := #[Operand.tmp 104], argTypes := #[9] }, _, _, _, some (4, false)⟩ (by kernel_rfl) rfl (by kernel_rfl) (fun KC hK => ?_)
                go_wp2_with fail
                refine (HL.out _).mono ?_
                rintro r w2 ⟨rfl, rfl⟩
                refine hK.out _ _ hHeld (fun hHeld => ?_)
                clear hK KC
                refine take_v (v := ?_) 8 ⟨some 106, Op.unOp UnOp.not 4 (Operand.tmp 105), _, _, _, some (4, false)⟩ rfl (fun _ _ _ h => h) ?_ hHeld ?_
                rotate_left
                · (intro W _; go_simp <;> (try with_reducible rfl))
                refine take_v (v := ?_) 9 ⟨some 107, Op.pick (Operand.tmp 102) (Operand.const (Value.bool true)) (Operand.tmp 106), _, _, _, none⟩ rfl (fun _ _ _ h => h) ?_ hHeld ?_
                rotate_left
                · (intro W _; go_simp <;> (try with_reducible rfl))
                refine take_v (v := ?_) 10 ⟨some 108, Op.move (Operand.tmp 107), _, _, _, none⟩ rfl (fun _ _ _ h => h) ?_ hHeld ?_
                rotate_left
                · (intro W _; go_simp <;> (try with_reducible rfl))
                refine take_v (v := ?_) 11 ⟨some 109, Op.move (Operand.tmp 11), _, _, _, some (10, false)⟩ rfl (fun _ _ _ h => h) ?_ hHeld ?_
                rotate_left
                · (intro W _; go_simp <;> (try with_reducible rfl))
                refine take_v (v := ?_) 12 ⟨some 110, Op.binOp BinOp.gtr 3 (Operand.tmp 109) (Operand.const (Value.int IntKind.i64 0)) 3, _, _, _, some (10, false)⟩ rfl (fun _ _ _ h => h) ?_ hHeld ?_
                rotate_left
                · (intro W _; go_simp <;> (try with_reducible rfl))
                refine take_v (v := ?_) 13 ⟨some 111, Op.move (Operand.tmp 110), _, _, _, some (10, false)⟩ rfl (fun _ _ _ h => h) ?_ hHeld ?_
                rotate_left
                · (intro W _; go_simp <;> (try with_reducible rfl))
                refine take_v (v := ?_) 14 ⟨some 112, Op.fieldAddr 71 (Operand.tmp 5) 3, _, _, _, some (13, true)⟩ rfl (fun _ _ _ h => h) ?_ hHeld ?_
                rotate_left
                · (intro W _; go_simp <;> (try with_reducible rfl))
                refine take_v (v := ?_) 15 ⟨some 113, Op.load 28 (Operand.tmp 112), _, _, _, some (13, true)⟩ rfl (fun _ _ _ h => h) ?_ hHeld ?_
                rotate_left
                · (intro W hSW; (have s0 := hSW.1.cell 0 rfl; have s1 := hSW.1.cell 1 rfl; have s2 := hSW.1.2; have s3 := hSW.2.1.cell 3 rfl; have s4 := hSW.2.1.2; have s5 := hSW.2.2); go_simp <;> (try with_reducible rfl))
                refine take_v (v := ?_) 16 ⟨some 114, Op.move (Operand.tmp 11), _, _, _, some (13, true)⟩ rfl (fun _ _ _ h => h) ?_ hHeld ?_
                rotate_left
                · (intro W _; go_simp <;> (try with_reducible rfl))
                refine take_v (v := ?_) 17 ⟨some 115, Op.binOp BinOp.sub 3 (Operand.tmp 114) (Operand.const (Value.int IntKind.i64 1)) 3, _, _, _, some (13, true)⟩ rfl (fun _ _ _ h => h) ?_ hHeld ?_
                rotate_left
                · (intro W _; go_simp <;> (try with_reducible rfl))
                refine take_v (v := ?_) 18 ⟨some 116, Op.indexAddr 28 (Operand.tmp 113) (Operand.tmp 115), _, _, _, some (13, true)⟩ rfl (fun _ _ _ h => h) ?_ hHeld ?_
                rotate_left
                · (intro W _; go_simp <;> (try with_reducible rfl))
                refine take_v (v := ?_) 19 ⟨some 117, Op.fieldAddr 55 (Operand.tmp 116) 0, _, _, _, some (13, true)⟩ rfl (fun _ _ _ h => h) ?_ hHeld ?_
                rotate_left
                · (intro W _; go_simp <;> (try with_reducible rfl))
                refine take_v (v := ?_) 20 ⟨some 118, Op.load 9 (Operand.tmp 117), _, _, _, some (13, true)⟩ rfl (fun _ _ _ h => h) ?_ hHeld ?_
                rotate_left
                · (intro W hSW; (have s0 := hSW.1.cell 0 rfl; have s1 := hSW.1.cell 1 rfl; have s2 := hSW.1.2; have s3 := hSW.2.1.cell 3 rfl; have s4 := hSW.2.1.2; have s5 := hSW.2.2); go_simp <;> (try with_reducible rfl))
                refine take_v (v := ?_) 21 ⟨some 119, Op.fieldAddr 55 (Operand.tmp 12) 0, _, _, _, some (13, true)⟩ rfl (fun _ _ _ h => h) ?_ hHeld ?_
                rotate_left
                · (intro W _; go_simp <;> (try with_reducible rfl))
                refine take_v (v := ?_) 22 ⟨some 120, Op.load 9 (Operand.tmp 119), _, _, _, some (13, true)⟩ rfl (fun _ _ _ h => h) ?_ hHeld ?_
                rotate_left
                · (intro W hSW; (have s0 := hSW.1.cell 0 rfl; have s1 := hSW.1.cell 1 rfl; have s2 := hSW.1.2; have s3 := hSW.2.1.cell 3 rfl; have s4 := hSW.2.1.2; have s5 := hSW.2.2); go_simp <;> (try with_reducible rfl))
                refine take_v (v := ?_) 23 ⟨some 121, Op.binOp BinOp.geq 9 (Operand.tmp 118) (Operand.tmp 120) 9, _, _, _, some (13, true)⟩ rfl (fun _ _ _ h => h) ?_ hHeld ?_
                rotate_left
                · (intro W _; go_simp <;> (try with_reducible rfl))
                refine take_v (v := ?_) 24 ⟨some 122, Op.pick (Operand.tmp 111) (Operand.tmp 121) (Operand.const (Value.bool false)), _, _, _, some (10, false)⟩ rfl (fun _ _ _ h => h) ?_ hHeld ?_
                rotate_left
                · (intro W _; go_simp <;> (try with_reducible rfl))
                refine take_v (v := ?_) 25 ⟨some 123, Op.pick (Operand.tmp 108) (Operand.const (Value.bool true)) (Operand.tmp 122), _, _, _, none⟩ rfl (fun _ _ _ h => h) ?_ hHeld ?_
                rotate_left
                · (intro W _; go_simp <;> (try with_reducible rfl))
                refine wpAnyH_done (by kernel_rfl) ?_ _
                refine NoPanic.normal ?_
                clear HQ1 hwq
                have b0 := H1.out.2.1.cell 0 rfl
                have b1' := H1.out.2.1.cell 1 rfl
                have b2' := H1.out.2.1.cell 2 rfl
                have b3' := H1.out.2.1.cell 3 rfl
                have bz := H1.out.2.1.2
                have k0 := H1.out.1.cell 0 rfl
                have kz := H1.out.1.2
                go_wp2_with fail
                refine (l5Find_at ra rc (some ⟨b, off, none⟩) tc oa oc S (V.cl i).f0 _ HS.out.2.2.2.1 (HS.out.2.2.1.below H1.out.2.2.2.1 (Nat.le_refl _))).mono ?_
                rintro r w3 ⟨o, f, rfl, hF, hb⟩
                have HF := (show Hid (_ ∨ _) from hF)
                have H3 : Hid (L5H w [.int .i64 S.ep, .slice ra S.rn rc, .slice (some ⟨b, off, none⟩) S.tn tc, .slice oa S.on oc] [.int .i64 V.id, .int .i64 V.st, .slice la V.ln lc, .slice (some ⟨b2, o2, none⟩) V.cn cc, .int .i64 V.e, .int .i64 V.s, .bool V.b] w3 ∧ Below w.heap.size w (w3.alloc (.cells #[.string o.f0, .string o.f1, .int .i64 o.f2, .int .i64 o.f3, .bool o.f4, .int .i64 o.f5] 52)) ∧ L5H w [.int .i64 S.ep, .slice ra S.rn rc, .slice (some ⟨b, off, none⟩) S.tn tc, .slice oa S.on oc] [.int .i64 V.id, .int .i64 V.st, .slice la V.ln lc, .slice (some ⟨b2, o2, none⟩) V.cn cc, .int .i64 V.e, .int .i64 V.s, .bool V.b] (w3.alloc (.cells #[.string o.f0, .string o.f1, .int .i64 o.f2, .int .i64 o.f3, .bool o.f4, .int .i64 o.f5] 52))) := by
                  have g : L5H w [.int .i64 S.ep, .slice ra S.rn rc, .slice (some ⟨b, off, none⟩) S.tn tc, .slice oa S.on oc] [.int .i64 V.id, .int .i64 V.st, .slice la V.ln lc, .slice (some ⟨b2, o2, none⟩) V.cn cc, .int .i64 V.e, .int .i64 V.s, .bool V.b] w3 := ⟨H1.out.2.1.next hb, H1.out.2.2.1.next hb, below_next' H1.out.2.2.2.1 hb⟩
                  exact ⟨g, below_next' g.2.2 (Go.Joins.below_alloc1 _ _), g.next (Go.Joins.below_alloc1 _ _)⟩
                have HQ9 : Hid (cellsP V.cl i) := H1.out.2.2.2.2.1
                clear hF hb H1 b0 b1' b2' b3' bz k0 kz
                clear HF
                go_wp2
                go_roundw
                case rel => exact ⟨i + 1, by omega, by go_num, upto_succ HQ9.out HY.out, fun _ _ => trivial, H3.out.2.2⟩
                case measure => simp [intOf]; omega
          · have hin : i = V.cn := by omega
            have hic' : ¬ (i : Int) < (V.cn : Int) := by omega
            have HCL : Hid (cellsP V.cl V.cn) := by rw [hin] at hall; exact hall
            have HX1 : Hid (L5H w [.int .i64 S.ep, .slice ra S.rn rc, .slice (some ⟨b, off, none⟩) S.tn tc, .slice oa S.on oc] [.int .i64 V.id, .int .i64 V.st, .slice la V.ln lc, .slice ca V.cn cc, .int .i64 V.e, .int .i64 V.s, .bool V.b] wr) := hL
            have t1 := hL.2.1.cell 1 rfl
            have t4 := hL.2.1.cell 4 rfl
            have t5 := hL.2.1.cell 5 rfl
            have t6 := hL.2.1.cell 6 rfl
            have tz := hL.2.1.2
            have HT : Hid (clB (txnV S V k) = tidOk V.st V.e V.s V.b) := txn_is HID.out e0 HLO.out HCL.out (fun h => by rw [HM.out] at h; cases h)
            clear hall hown hL hin
            have HT2 : Hid (clB (txnV S V k) = (goodT V.e V.s && !V.b)) := by show _ = _; rw [HT.out, tidOk, if_pos HB.out]
            go_wp2_with fail
            refine (l1Tid_any _ _ _ _).mono ?_
            rintro r w4 ⟨rfl, hb⟩
            have H4 : Hid (Below w.heap.size w w4) := below_next' HX1.out.2.2 hb
            have u6 := (HX1.out.2.1.next hb).cell 6 rfl
            have uz := (HX1.out.2.1.next hb).2
            clear hb HX1 t1 t4 t5 t6 tz
            cases e5 : goodT V.e V.s
            · go_wp2
              go_ret
              exact ⟨ret_bool (by rw [HT2.out, e5]; rfl), H4.out⟩
            · go_wp2
              go_ret
              exact ⟨ret_bool (by rw [HT2.out, e5]; rfl), H4.out⟩

      · -- false false false
        have HM : Hid (mayB V.st = false) := by show _ = _; rw [mayB, e2, e3]; rfl
        have HB : Hid (hasB V.st = false) := by show _ = _; rw [hasB, e3, e4]; rfl
        go_wp2
        clear v1 v3 vz
        go_loopw [93] (fun x wr => ∃ i : Nat, i ≤ V.cn ∧ x = .int .i64 i ∧ cellsP V.cl i ∧ (∀ j : Nat, j < i → True) ∧ L5H w [.int .i64 S.ep, .slice ra S.rn rc, .slice (some ⟨b, off, none⟩) S.tn tc, .slice oa S.on oc] [.int .i64 V.id, .int .i64 V.st, .slice la V.ln lc, .slice ca V.cn cc, .int .i64 V.e, .int .i64 V.s, .bool V.b] wr) (fun x _ => V.cn - (intOf x).toNat)
        case atStart => exact ⟨0, Nat.zero_le _, rfl, fun j hj => absurd hj (by omega), fun j hj => absurd hj (by omega), HX1.out⟩
        case round =>
          obtain ⟨i, hi, rfl, hall, hown, hL⟩ := hrel
          clear HX1
          by_cases hic : i < V.cn
          · rcases HS.out.2.1.below hL.2.2 (Nat.le_refl _) with h | ⟨b2, o2, rfl, hbs2, hE⟩
            · omega
            have hic' : (i : Int) < (V.cn : Int) := by omega
            obtain ⟨c0, c1⟩ := cell_cells hE hic
            have hd : Below wr.heap.size wr (wr.alloc (.cells #[.string (V.cl i).f0, .string (V.cl i).f1] 55)).drew := (Go.Joins.below_alloc1 _ _).drew
            have H1 : Hid (Bx (wr.alloc (.cells #[.string (V.cl i).f0, .string (V.cl i).f1] 55)).drew wr.heap.size [.string (V.cl i).f0, .string (V.cl i).f1] ∧ Bx (wr.alloc (.cells #[.string (V.cl i).f0, .string (V.cl i).f1] 55)).drew w.heap.size [.int .i64 S.ep, .slice ra S.rn rc, .slice (some ⟨b, off, none⟩) S.tn tc, .slice oa S.on oc] ∧ Bx (wr.alloc (.cells #[.string (V.cl i).f0, .string (V.cl i).f1] 55)).drew (w.heap.size + 1) [.int .i64 V.id, .int .i64 V.st, .slice la V.ln lc, .slice (some ⟨b2, o2, none⟩) V.cn cc, .int .i64 V.e, .int .i64 V.s, .bool V.b] ∧ Below w.heap.size w (wr.alloc (.cells #[.string (V.cl i).f0, .string (V.cl i).f1] 55)).drew ∧ cellsP V.cl i ∧ (∀ j : Nat, j < i → True)) := ⟨(Bx.new wr [.string (V.cl i).f0, .string (V.cl i).f1] 55).next (Below.refl _ _).drew, hL.1.next hd, hL.2.1.next hd, below_next' hL.2.2 hd, hall, hown⟩
            have HE : Hid (∀ q, q < V.cn → (wr.alloc (.cells #[.string (V.cl i).f0, .string (V.cl i).f1] 55)).drew.cell? ⟨b2, o2 + q * 2, none⟩ = some (.string (V.cl q).f0)) := fun q hq => (hd.cell (p := ⟨b2, o2 + q * 2, none⟩) hbs2).trans (cell_cells hE hq).1
            clear hall hown hL hE hd
            have hz := HS.out.1.2.2.2 i hic
            cases e1 : keyOk (V.cl i).f0
            · have HK : Hid (∀ W, Calls Tryz.prog 50 #[.string (V.cl i).f0] W fun r w' => r = .returned (.bool false) ∧ w' = W) := fun W => by have := l1Key_any (V.cl i).f0 W hz.1; rw [e1] at this; exact this
              have HN : Hid (clB (txnV S V k) = false) := no_cl hic (fun g => by rw [g.1.1] at e1; cases e1)
              clear HE
              go_upto_region 20 with fail
              refine wp_region_noPanic ?_
              refine wp_region_held_drew (S := fun W => Bx W wr.heap.size [.string (V.cl i).f0, .string (V.cl i).f1] ∧ Bx W (w.heap.size + 1) [.int .i64 V.id, .int .i64 V.st, .slice la V.ln lc, .slice (some ⟨b2, o2, none⟩) V.cn cc, .int .i64 V.e, .int .i64 V.s, .bool V.b]) (by kernel_rfl) ⟨H1.out.1, H1.out.2.2.1⟩ (fun hHeld => ?_)
              refine take_v (v := ?_) 0 ⟨some 98, Op.fieldAddr 55 (Operand.tmp 12) 0, _, _, _, none⟩ rfl (fun _ _ _ h => h) ?_ hHeld ?_
              rotate_left
              · (intro W _; go_simp <;> (try with_reducible rfl))
              refine take_v (v := ?_) 1 ⟨some 99, Op.load 9 (Operand.tmp 98), _, _, _, none⟩ rfl (fun _ _ _ h => h) ?_ hHeld ?_
              rotate_left
              · (intro W hSW; (have s0 := hSW.1.cell 0 rfl; have s1 := hSW.1.cell 1 rfl; have s2 := hSW.1.2; have s3 := hSW.2.cell 3 rfl; have s4 := hSW.2.2); go_simp <;> (try with_reducible rfl))
              refine ready_call 2 ⟨some 100, Op.call { callee := Callee.value (Operand.func 50), args := #[Operand.tmp 99], argTypes := #[9] }, _, _, _, none⟩ (by kernel_rfl) rfl (by kernel_rfl) (fun KC hK => ?_)
              go_wp2_with fail
              refine (HK.out _).mono ?_
              rintro r w2 ⟨rfl, rfl⟩
              refine hK.out _ _ hHeld (fun hHeld => ?_)
              clear hK KC
              refine take_v (v := ?_) 3 ⟨some 101, Op.unOp UnOp.not 4 (Operand.tmp 100), _, _, _, none⟩ rfl (fun _ _ _ h => h) ?_ hHeld ?_
              rotate_left
              · (intro W _; go_simp <;> (try with_reducible rfl))
              refine take_v (v := ?_) 4 ⟨some 102, Op.move (Operand.tmp 101), _, _, _, none⟩ rfl (fun _ _ _ h => h) ?_ hHeld ?_
              rotate_left
              · (intro W _; go_simp <;> (try with_reducible rfl))
              refine take_n 5 ⟨some 103, Op.fieldAddr 55 (Operand.tmp 12) 1, _, _, _, some (4, false)⟩ rfl (fun _ _ _ h => h) hHeld ?_
              refine take_n 6 ⟨some 104, Op.load 9 (Operand.tmp 103), _, _, _, some (4, false)⟩ rfl (fun _ _ _ h => h) hHeld ?_
              refine take_n 7 ⟨some 105, Op.call { callee := Callee.value (Operand.func 51), args := #[Operand.tmp 104], argTypes := #[9] }, _, _, _, some (4, false)⟩ rfl (fun _ _ _ h => h) hHeld ?_
              refine take_n 8 ⟨some 106, Op.unOp UnOp.not 4 (Operand.tmp 105), _, _, _, some (4, false)⟩ rfl (fun _ _ _ h => h) hHeld ?_
              refine take_v (v := ?_) 9 ⟨some 107, Op.pick (Operand.tmp 102) (Operand.const (Value.bool true)) (Operand.tmp 106), _, _, _, none⟩ rfl (fun _ _ _ h => h) ?_ hHeld ?_
              rotate_left
              · (intro W _; go_simp <;> (try with_reducible rfl))
              refine take_v (v := ?_) 10 ⟨some 108, Op.move (Operand.tmp 107), _, _, _, none⟩ rfl (fun _ _ _ h => h) ?_ hHeld ?_
              rotate_left
              · (intro W _; go_simp <;> (try with_reducible rfl))
              refine take_n 11 ⟨some 109, Op.move (Operand.tmp 11), _, _, _, some (10, false)⟩ rfl (fun _ _ _ h => h) hHeld ?_
              refine take_n 12 ⟨some 110, Op.binOp BinOp.gtr 3 (Operand.tmp 109) (Operand.const (Value.int IntKind.i64 0)) 3, _, _, _, some (10, false)⟩ rfl (fun _ _ _ h => h) hHeld ?_
              refine take_n 13 ⟨some 111, Op.move (Operand.tmp 110), _, _, _, some (10, false)⟩ rfl (fun _ _ _ h => h) hHeld ?_
              refine take_n 14 ⟨some 112, Op.fieldAddr 71 (Operand.tmp 5) 3, _, _, _, some (13, true)⟩ rfl (fun _ _ _ h => h) hHeld ?_
              refine take_n 15 ⟨some 113, Op.load 28 (Operand.tmp 112), _, _, _, some (13, true)⟩ rfl (fun _ _ _ h => h) hHeld ?_
              refine take_n 16 ⟨some 114, Op.move (Operand.tmp 11), _, _, _, some (13, true)⟩ rfl (fun _ _ _ h => h) hHeld ?_
              refine take_n 17 ⟨some 115, Op.binOp BinOp.sub 3 (Operand.tmp 114) (Operand.const (Value.int IntKind.i64 1)) 3, _, _, _, some (13, true)⟩ rfl (fun _ _ _ h => h) hHeld ?_
              refine take_n 18 ⟨some 116, Op.indexAddr 28 (Operand.tmp 113) (Operand.tmp 115), _, _, _, some (13, true)⟩ rfl (fun _ _ _ h => h) hHeld ?_
              refine take_n 19 ⟨some 117, Op.fieldAddr 55 (Operand.tmp 116) 0, _, _, _, some (13, true)⟩ rfl (fun _ _ _ h => h) hHeld ?_
              refine take_n 20 ⟨some 118, Op.load 9 (Operand.tmp 117), _, _, _, some (13, true)⟩ rfl (fun _ _ _ h => h) hHeld ?_
              refine take_n 21 ⟨some 119, Op.fieldAddr 55 (Operand.tmp 12) 0, _, _, _, some (13, true)⟩ rfl (fun _ _ _ h => h) hHeld ?_
              refine take_n 22 ⟨some 120, Op.load 9 (Operand.tmp 119), _, _, _, some (13, true)⟩ rfl (fun _ _ _ h => h) hHeld ?_
              refine take_n 23 ⟨some 121, Op.binOp BinOp.geq 9 (Operand.tmp 118) (Operand.tmp 120) 9, _, _, _, some (13, true)⟩ rfl (fun _ _ _ h => h) hHeld ?_
              refine take_n 24 ⟨some 122, Op.pick (Operand.tmp 111) (Operand.tmp 121) (Operand.const (Value.bool false)), _, _, _, some (10, false)⟩ rfl (fun _ _ _ h => h) hHeld ?_
              refine take_v (v := ?_) 25 ⟨some 123, Op.pick (Operand.tmp 108) (Operand.const (Value.bool true)) (Operand.tmp 122), _, _, _, none⟩ rfl (fun _ _ _ h => h) ?_ hHeld ?_
              rotate_left
              · (intro W _; go_simp <;> (try with_reducible rfl))
              refine wpAnyH_done (by kernel_rfl) ?_ _
              refine NoPanic.normal ?_
              go_wp2
              go_ret
              exact ⟨ret_bool HN.out.symm, H1.out.2.2.2.1⟩
            have HK : Hid (∀ W, Calls Tryz.prog 50 #[.string (V.cl i).f0] W fun r w' => r = .returned (.bool true) ∧ w' = W) := fun W => by have := l1Key_any (V.cl i).f0 W hz.1; rw [e1] at this; exact this
            cases e2' : valOk (V.cl i).f1
            · have HL : Hid (∀ W, Calls Tryz.prog 51 #[.string (V.cl i).f1] W fun r w' => r = .returned (.bool false) ∧ w' = W) := fun W => by have := l1Value_any (V.cl i).f1 W hz.2; rw [e2'] at this; exact this
              have HN : Hid (clB (txnV S V k) = false) := no_cl hic (fun g => by rw [g.1.2] at e2'; cases e2')
              clear HE
              go_upto_region 20 with fail
              refine wp_region_noPanic ?_
              refine wp_region_held_drew (S := fun W => Bx W wr.heap.size [.string (V.cl i).f0, .string (V.cl i).f1] ∧ Bx W (w.heap.size + 1) [.int .i64 V.id, .int .i64 V.st, .slice la V.ln lc, .slice (some ⟨b2, o2, none⟩) V.cn cc, .int .i64 V.e, .int .i64 V.s, .bool V.b]) (by kernel_rfl) ⟨H1.out.1, H1.out.2.2.1⟩ (fun hHeld => ?_)
              refine take_v (v := ?_) 0 ⟨some 98, Op.fieldAddr 55 (Operand.tmp 12) 0, _, _, _, none⟩ rfl (fun _ _ _ h => h) ?_ hHeld ?_
              rotate_left
              · (intro W _; go_simp <;> (try with_reducible rfl))
              refine take_v (v := ?_) 1 ⟨some 99, Op.load 9 (Operand.tmp 98), _, _, _, none⟩ rfl (fun _ _ _ h => h) ?_ hHeld ?_
              rotate_left
              · (intro W hSW; (have s0 := hSW.1.cell 0 rfl; have s1 := hSW.1.cell 1 rfl; have s2 := hSW.1.2; have s3 := hSW.2.cell 3 rfl; have s4 := hSW.2.2); go_simp <;> (try with_reducible rfl))
              refine ready_call 2 ⟨some 100, Op.call { callee := Callee.value (Operand.func 50), args := #[Operand.tmp 99], argTypes := #[9] }, _, _, _, none⟩ (by kernel_rfl) rfl (by kernel_rfl) (fun KC hK => ?_)
              go_wp2_with fail
              refine (HK.out _).mono ?_
              rintro r w2 ⟨rfl, rfl⟩
              refine hK.out _ _ hHeld (fun hHeld => ?_)
              clear hK KC
              refine take_v (v := ?_) 3 ⟨some 101, Op.unOp UnOp.not 4 (Operand.tmp 100), _, _, _, none⟩ rfl (fun _ _ _ h => h) ?_ hHeld ?_
              rotate_left
              · (intro W _; go_simp <;> (try with_reducible rfl))
              refine take_v (v := ?_) 4 ⟨some 102, Op.move (Operand.tmp 101), _, _, _, none⟩ rfl (fun _ _ _ h => h) ?_ hHeld ?_
              rotate_left
              · (intro W _; go_simp <;> (try with_reducible rfl))
              refine take_v (v := ?_) 5 ⟨some 103, Op.fieldAddr 55 (Operand.tmp 12) 1, _, _, _, some (4, false)⟩ rfl (fun _ _ _ h => h) ?_ hHeld ?_
              rotate_left
              · (intro W _; go_simp <;> (try with_reducible rfl))
              refine take_v (v := ?_) 6 ⟨some 104, Op.load 9 (Operand.tmp 103), _, _, _, some (4, false)⟩ rfl (fun _ _ _ h => h) ?_ hHeld ?_
              rotate_left
              · (intro W hSW; (have s0 := hSW.1.cell 0 rfl; have s1 := hSW.1.cell 1 rfl; have s2 := hSW.1.2; have s3 := hSW.2.cell 3 rfl; have s4 := hSW.2.2); go_simp <;> (try with_reducible rfl))
              refine ready_call 7 ⟨some 105, Op.call { callee := Callee.value (Operand.func 51), args := #[Operand.tmp 104], argTypes := #[9] }, _, _, _, some (4, false)⟩ (by kernel_rfl) rfl (by kernel_rfl) (fun KC hK => ?_)
              go_wp2_with fail
              refine (HL.out _).mono ?_
              rintro r w2 ⟨rfl, rfl⟩
              refine hK.out _ _ hHeld (fun hHeld => ?_)
              clear hK KC
              refine take_v (v := ?_) 8 ⟨some 106, Op.unOp UnOp.not 4 (Operand.tmp 105), _, _, _, some (4, false)⟩ rfl (fun _ _ _ h => h) ?_ hHeld ?_
              rotate_left
              · (intro W _; go_simp <;> (try with_reducible rfl))
              refine take_v (v := ?_) 9 ⟨some 107, Op.pick (Operand.tmp 102) (Operand.const (Value.bool true)) (Operand.tmp 106), _, _, _, none⟩ rfl (fun _ _ _ h => h) ?_ hHeld ?_
              rotate_left
              · (intro W _; go_simp <;> (try with_reducible rfl))
              refine take_v (v := ?_) 10 ⟨some 108, Op.move (Operand.tmp 107), _, _, _, none⟩ rfl (fun _ _ _ h => h) ?_ hHeld ?_
              rotate_left
              · (intro W _; go_simp <;> (try with_reducible rfl))
              refine take_n 11 ⟨some 109, Op.move (Operand.tmp 11), _, _, _, some (10, false)⟩ rfl (fun _ _ _ h => h) hHeld ?_
              refine take_n 12 ⟨some 110, Op.binOp BinOp.gtr 3 (Operand.tmp 109) (Operand.const (Value.int IntKind.i64 0)) 3, _, _, _, some (10, false)⟩ rfl (fun _ _ _ h => h) hHeld ?_
              refine take_n 13 ⟨some 111, Op.move (Operand.tmp 110), _, _, _, some (10, false)⟩ rfl (fun _ _ _ h => h) hHeld ?_
              refine take_n 14 ⟨some 112, Op.fieldAddr 71 (Operand.tmp 5) 3, _, _, _, some (13, true)⟩ rfl (fun _ _ _ h => h) hHeld ?_
              refine take_n 15 ⟨some 113, Op.load 28 (Operand.tmp 112), _, _, _, some (13, true)⟩ rfl (fun _ _ _ h => h) hHeld ?_
              refine take_n 16 ⟨some 114, Op.move (Operand.tmp 11), _, _, _, some (13, true)⟩ rfl (fun _ _ _ h => h) hHeld ?_
              refine take_n 17 ⟨some 115, Op.binOp BinOp.sub 3 (Operand.tmp 114) (Operand.const (Value.int IntKind.i64 1)) 3, _, _, _, some (13, true)⟩ rfl (fun _ _ _ h => h) hHeld ?_
              refine take_n 18 ⟨some 116, Op.indexAddr 28 (Operand.tmp 113) (Operand.tmp 115), _, _, _, some (13, true)⟩ rfl (fun _ _ _ h => h) hHeld ?_
              refine take_n 19 ⟨some 117, Op.fieldAddr 55 (Operand.tmp 116) 0, _, _, _, some (13, true)⟩ rfl (fun _ _ _ h => h) hHeld ?_
              refine take_n 20 ⟨some 118, Op.load 9 (Operand.tmp 117), _, _, _, some (13, true)⟩ rfl (fun _ _ _ h => h) hHeld ?_
              refine take_n 21 ⟨some 119, Op.fieldAddr 55 (Operand.tmp 12) 0, _, _, _, some (13, true)⟩ rfl (fun _ _ _ h => h) hHeld ?_
              refine take_n 22 ⟨some 120, Op.load 9 (Operand.tmp 119), _, _, _, some (13, true)⟩ rfl (fun _ _ _ h => h) hHeld ?_
              refine take_n 23 ⟨some 121, Op.binOp BinOp.geq 9 (Operand.tmp 118) (Operand.tmp 120) 9, _, _, _, some (13, true)⟩ rfl (fun _ _ _ h => h) hHeld ?_
              refine take_n 24 ⟨some 122, Op.pick (Operand.tmp 111) (Operand.tmp 121) (Operand.const (Value.bool false)), _, _, _, some (10, false)⟩ rfl (fun _ _ _ h => h) hHeld ?_
              refine take_v (v := ?_) 25 ⟨some 123, Op.pick (Operand.tmp 108) (Operand.const (Value.bool true)) (Operand.tmp 122), _, _, _, none⟩ rfl (fun _ _ _ h => h) ?_ hHeld ?_
              rotate_left
              · (intro W _; go_simp <;> (try with_reducible rfl))
              refine wpAnyH_done (by kernel_rfl) ?_ _
              refine NoPanic.normal ?_
              go_wp2
              go_ret
              exact ⟨ret_bool HN.out.symm, H1.out.2.2.2.1⟩
            have HL : Hid (∀ W, Calls Tryz.prog 51 #[.string (V.cl i).f1] W fun r w' => r = .returned (.bool true) ∧ w' = W) := fun W => by have := l1Value_any (V.cl i).f1 W hz.2; rw [e2'] at this; exact this
            by_cases hk0 : i = 0
            · have hk0' : decide ((0 : Int) < (i : Int)) = false := by simp; omega
              have hk0n : decide (0 < i) = false := by simp; omega
              have HY : Hid (cell1 V.cl i) := ⟨⟨e1, e2'⟩, fun h => absurd h (by omega)⟩
              clear HE hk0
              go_upto_region 20 with fail
              refine wp_region_noPanic ?_
              refine wp_region_held_drew (S := fun W => Bx W wr.heap.size [.string (V.cl i).f0, .string (V.cl i).f1] ∧ Bx W (w.heap.size + 1) [.int .i64 V.id, .int .i64 V.st, .slice la V.ln lc, .slice (some ⟨b2, o2, none⟩) V.cn cc, .int .i64 V.e, .int .i64 V.s, .bool V.b]) (by kernel_rfl) ⟨H1.out.1, H1.out.2.2.1⟩ (fun hHeld => ?_)
              refine take_v (v := ?_) 0 ⟨some 98, Op.fieldAddr 55 (Operand.tmp 12) 0, _, _, _, none⟩ rfl (fun _ _ _ h => h) ?_ hHeld ?_
              rotate_left
              · (intro W _; go_simp <;> (try with_reducible rfl))
              refine take_v (v := ?_) 1 ⟨some 99, Op.load 9 (Operand.tmp 98), _, _, _, none⟩ rfl (fun _ _ _ h => h) ?_ hHeld ?_
              rotate_left
              · (intro W hSW; (have s0 := hSW.1.cell 0 rfl; have s1 := hSW.1.cell 1 rfl; have s2 := hSW.1.2; have s3 := hSW.2.cell 3 rfl; have s4 := hSW.2.2); go_simp <;> (try with_reducible rfl))
              refine ready_call 2 ⟨some 100, Op.call { callee := Callee.value (Operand.func 50), args := #[Operand.tmp 99], argTypes := #[9] }, _, _, _, none⟩ (by kernel_rfl) rfl (by kernel_rfl) (fun KC hK => ?_)
              go_wp2_with fail
              refine (HK.out _).mono ?_
              rintro r w2 ⟨rfl, rfl⟩
              refine hK.out _ _ hHeld (fun hHeld => ?_)
              clear hK KC
              refine take_v (v := ?_) 3 ⟨some 101, Op.unOp UnOp.not 4 (Operand.tmp 100), _, _, _, none⟩ rfl (fun _ _ _ h => h) ?_ hHeld ?_
              rotate_left
              · (intro W _; go_simp <;> (try with_reducible rfl))
              refine take_v (v := ?_) 4 ⟨some 102, Op.move (Operand.tmp 101), _, _, _, none⟩ rfl (fun _ _ _ h => h) ?_ hHeld ?_
              rotate_left
              · (intro W _; go_simp <;> (try with_reducible rfl))
              refine take_v (v := ?_) 5 ⟨some 103, Op.fieldAddr 55 (Operand.tmp 12) 1, _, _, _, some (4, false)⟩ rfl (fun _ _ _ h => h) ?_ hHeld ?_
              rotate_left
              · (intro W _; go_simp <;> (try with_reducible rfl))
              refine take_v (v := ?_) 6 ⟨some 104, Op.load 9 (Operand.tmp 103), _, _, _, some (4, false)⟩ rfl (fun _ _ _ h => h) ?_ hHeld ?_
              rotate_left
              · (intro W hSW; (have s0 := hSW.1.cell 0 rfl; have s1 := hSW.1.cell 1 rfl; have s2 := hSW.1.2; have s3 := hSW.2.cell 3 rfl; have s4 := hSW.2.2); go_simp <;> (try with_reducible rfl))
              refine ready_call 7 ⟨some 105, Op.call { callee := Callee.value (Operand.func 51), args := #[Operand.tmp 104], argTypes := #[9] }, _, _, _, some (4, false)⟩ (by kernel_rfl) rfl (by kernel_rfl) (fun KC hK => ?_)
              go_wp2_with fail
              refine (HL.out _).mono ?_
              rintro r w2 ⟨rfl, rfl⟩
              refine hK.out _ _ hHeld (fun hHeld => ?_)
              clear hK KC
              refine take_v (v := ?_) 8 ⟨some 106, Op.unOp UnOp.not 4 (Operand.tmp 105), _, _, _, some (4, false)⟩ rfl (fun _ _ _ h => h) ?_ hHeld ?_
              rotate_left
              · (intro W _; go_simp <;> (try with_reducible rfl))
              refine take_v (v := ?_) 9 ⟨some 107, Op.pick (Operand.tmp 102) (Operand.const (Value.bool true)) (Operand.tmp 106), _, _, _, none⟩ rfl (fun _ _ _ h => h) ?_ hHeld ?_
              rotate_left
              · (intro W _; go_simp <;> (try with_reducible rfl))
              refine take_v (v := ?_) 10 ⟨some 108, Op.move (Operand.tmp 107), _, _, _, none⟩ rfl (fun _ _ _ h => h) ?_ hHeld ?_
              rotate_left
              · (intro W _; go_simp <;> (try with_reducible rfl))
              refine take_v (v := ?_) 11 ⟨some 109, Op.move (Operand.tmp 11), _, _, _, some (10, false)⟩ rfl (fun _ _ _ h => h) ?_ hHeld ?_
              rotate_left
              · (intro W _; go_simp <;> (try with_reducible rfl))
              refine take_v (v := ?_) 12 ⟨some 110, Op.binOp BinOp.gtr 3 (Operand.tmp 109) (Operand.const (Value.int IntKind.i64 0)) 3, _, _, _, some (10, false)⟩ rfl (fun _ _ _ h => h) ?_ hHeld ?_
              rotate_left
              · (intro W _; go_simp <;> (try with_reducible rfl))
              refine take_v (v := ?_) 13 ⟨some 111, Op.move (Operand.tmp 110), _, _, _, some (10, false)⟩ rfl (fun _ _ _ h => h) ?_ hHeld ?_
              rotate_left
              · (intro W _; go_simp <;> (try with_reducible rfl))
              refine take_n 14 ⟨some 112, Op.fieldAddr 71 (Operand.tmp 5) 3, _, _, _, some (13, true)⟩ rfl (fun _ _ _ h => h) hHeld ?_
              refine take_n 15 ⟨some 113, Op.load 28 (Operand.tmp 112), _, _, _, some (13, true)⟩ rfl (fun _ _ _ h => h) hHeld ?_
              refine take_n 16 ⟨some 114, Op.move (Operand.tmp 11), _, _, _, some (13, true)⟩ rfl (fun _ _ _ h => h) hHeld ?_
              refine take_n 17 ⟨some 115, Op.binOp BinOp.sub 3 (Operand.tmp 114) (Operand.const (Value.int IntKind.i64 1)) 3, _, _, _, some (13, true)⟩ rfl (fun _ _ _ h => h) hHeld ?_
              refine take_n 18 ⟨some 116, Op.indexAddr 28 (Operand.tmp 113) (Operand.tmp 115), _, _, _, some (13, true)⟩ rfl (fun _ _ _ h => h) hHeld ?_
              refine take_n 19 ⟨some 117, Op.fieldAddr 55 (Operand.tmp 116) 0, _, _, _, some (13, true)⟩ rfl (fun _ _ _ h => h) hHeld ?_
              refine take_n 20 ⟨some 118, Op.load 9 (Operand.tmp 117), _, _, _, some (13, true)⟩ rfl (fun _ _ _ h => h) hHeld ?_
              refine take_n 21 ⟨some 119, Op.fieldAddr 55 (Operand.tmp 12) 0, _, _, _, some (13, true)⟩ rfl (fun _ _ _ h => h) hHeld ?_
              refine take_n 22 ⟨some 120, Op.load 9 (Operand.tmp 119), _, _, _, some (13, true)⟩ rfl (fun _ _ _ h => h) hHeld ?_
              refine take_n 23 ⟨some 121, Op.binOp BinOp.geq 9 (Operand.tmp 118) (Operand.tmp 120) 9, _, _, _, some (13, true)⟩ rfl (fun _ _ _ h => h) hHeld ?_
              refine take_v (v := ?_) 24 ⟨some 122, Op.pick (Operand.tmp 111) (Operand.tmp 121) (Operand.const (Value.bool false)), _, _, _, some (10, false)⟩ rfl (fun _ _ _ h => h) ?_ hHeld ?_
              rotate_left
              · (intro W _; go_simp <;> (try with_reducible rfl))
              refine take_v (v := ?_) 25 ⟨some 123, Op.pick (Operand.tmp 108) (Operand.const (Value.bool true)) (Operand.tmp 122), _, _, _, none⟩ rfl (fun _ _ _ h => h) ?_ hHeld ?_
              rotate_left
              · (intro W _; go_simp <;> (try with_reducible rfl))
              refine wpAnyH_done (by kernel_rfl) ?_ _
              refine NoPanic.normal ?_
              have b0 := H1.out.2.1.cell 0 rfl
              have b1' := H1.out.2.1.cell 1 rfl
              have b2' := H1.out.2.1.cell 2 rfl
              have b3' := H1.out.2.1.cell 3 rfl
              have bz := H1.out.2.1.2
              have k0 := H1.out.1.cell 0 rfl
              have kz := H1.out.1.2
              go_wp2_with fail
              refine (l5Find_at ra rc (some ⟨b, off, none⟩) tc oa oc S (V.cl i).f0 _ HS.out.2.2.2.1 (HS.out.2.2.1.below H1.out.2.2.2.1 (Nat.le_refl _))).mono ?_
              rintro r w3 ⟨o, f, rfl, hF, hb⟩
              have HF := (show Hid (_ ∨ _) from hF)
              have H3 : Hid (L5H w [.int .i64 S.ep, .slice ra S.rn rc, .slice (some ⟨b, off, none⟩) S.tn tc, .slice oa S.on oc] [.int .i64 V.id, .int .i64 V.st, .slice la V.ln lc, .slice (some ⟨b2, o2, none⟩) V.cn cc, .int .i64 V.e, .int .i64 V.s, .bool V.b] w3 ∧ Below w.heap.size w (w3.alloc (.cells #[.string o.f0, .string o.f1, .int .i64 o.f2, .int .i64 o.f3, .bool o.f4, .int .i64 o.f5] 52)) ∧ L5H w [.int .i64 S.ep, .slice ra S.rn rc, .slice (some ⟨b, off, none⟩) S.tn tc, .slice oa S.on oc] [.int .i64 V.id, .int .i64 V.st, .slice la V.ln lc, .slice (some ⟨b2, o2, none⟩) V.cn cc, .int .i64 V.e, .int .i64 V.s, .bool V.b] (w3.alloc (.cells #[.string o.f0, .string o.f1, .int .i64 o.f2, .int .i64 o.f3, .bool o.f4, .int .i64 o.f5] 52))) := by
                have g : L5H w [.int .i64 S.ep, .slice ra S.rn rc, .slice (some ⟨b, off, none⟩) S.tn tc, .slice oa S.on oc] [.int .i64 V.id, .int .i64 V.st, .slice la V.ln lc, .slice (some ⟨b2, o2, none⟩) V.cn cc, .int .i64 V.e, .int .i64 V.s, .bool V.b] w3 := ⟨H1.out.2.1.next hb, H1.out.2.2.1.next hb, below_next' H1.out.2.2.2.1 hb⟩
                exact ⟨g, below_next' g.2.2 (Go.Joins.below_alloc1 _ _), g.next (Go.Joins.below_alloc1 _ _)⟩
              have HQ9 : Hid (cellsP V.cl i) := H1.out.2.2.2.2.1
              clear hF hb H1 b0 b1' b2' b3' bz k0 kz
              clear HF
              go_wp2
              go_roundw
              case rel => exact ⟨i + 1, by omega, by go_num, upto_succ HQ9.out HY.out, fun _ _ => trivial, H3.out.2.2⟩
              case measure => simp [intOf]; omega
            · obtain ⟨q, hq⟩ : ∃ q, q = i - 1 := ⟨_, rfl⟩
              have hwq : IntKind.i64.wrap ((i : Int) - 1) = (q : Int) := by rw [IntKind.wrap_i64]; omega
              have HQ : Hid (i = q + 1) := by show i = q + 1; omega
              have hq0 : (0 : Int) < (i : Int) := by omega
              have hq0n : decide (0 < i) = true := by simp; omega
              have hqn : (q : Int) < (V.cn : Int) := by omega
              have HQ1 := (show Hid _ from HE.out q (by omega))
              clear HE hk0 hq
              have HC : Hid (cell1 V.cl i ↔ Op.bytesLess (V.cl q).f0.toList (V.cl i).f0.toList = true) := by
                show _ ↔ _
                have : i - 1 = q := by have := HQ.out; omega
                constructor
                · intro g; have := g.2 (by omega); rwa [‹i - 1 = q›] at this
                · intro g; exact ⟨⟨e1, e2'⟩, fun _ => by rw [‹i - 1 = q›]; exact g⟩
              cases e3' : Op.bytesLess (V.cl q).f0.toList (V.cl i).f0.toList
              · have HN : Hid (clB (txnV S V k) = false) := no_cl hic (fun g => by rw [HC.out.1 g] at e3'; cases e3')
                go_upto_region 20 with fail
                refine wp_region_noPanic ?_
                refine wp_region_held_drew (S := fun W => Bx W wr.heap.size [.string (V.cl i).f0, .string (V.cl i).f1] ∧ Bx W (w.heap.size + 1) [.int .i64 V.id, .int .i64 V.st, .slice la V.ln lc, .slice (some ⟨b2, o2, none⟩) V.cn cc, .int .i64 V.e, .int .i64 V.s, .bool V.b] ∧ W.cell? ⟨b2, o2 + q * 2, none⟩ = some (.string (V.cl q).f0)) (by kernel_rfl) ⟨H1.out.1, H1.out.2.2.1, HQ1.out⟩ (fun hHeld => ?_)
                refine take_v (v := ?_) 0 ⟨some 98, Op.fieldAddr 55 (Operand.tmp 12) 0, _, _, _, none⟩ rfl (fun _ _ _ h => h) ?_ hHeld ?_
                rotate_left
                · (intro W _; go_simp <;> (try with_reducible rfl))
                refine take_v (v := ?_) 1 ⟨some 99, Op.load 9 (Operand.tmp 98), _, _, _, none⟩ rfl (fun _ _ _ h => h) ?_ hHeld ?_
                rotate_left
                · (intro W hSW; (have s0 := hSW.1.cell 0 rfl; have s1 := hSW.1.cell 1 rfl; have s2 := hSW.1.2; have s3 := hSW.2.1.cell 3 rfl; have s4 := hSW.2.1.2; have s5 := hSW.2.2); go_simp <;> (try with_reducible rfl))
                refine ready_call 2 ⟨some 100, Op.call { callee := Callee.value (Operand.func 50), args := #[Operand.tmp 99], argTypes := #[9] }, _, _, _, none⟩ (by kernel_rfl) rfl (by kernel_rfl) (fun KC hK => ?_)
                go_wp2_with fail
                refine (HK.out _).mono ?_
                rintro r w2 ⟨rfl, rfl⟩
                refine hK.out _ _ hHeld (fun hHeld => ?_)
                clear hK KC
                refine take_v (v := ?_) 3 ⟨some 101, Op.unOp UnOp.not 4 (Operand.tmp 100), _, _, _, none⟩ rfl (fun _ _ _ h => h) ?_ hHeld ?_
                rotate_left
                · (intro W _; go_simp <;> (try with_reducible rfl))
                refine take_v (v := ?_) 4 ⟨some 102, Op.move (Operand.tmp 101), _, _, _, none⟩ rfl (fun _ _ _ h => h) ?_ hHeld ?_
                rotate_left
                · (intro W _; go_simp <;> (try with_reducible rfl))
                refine take_v (v := ?_) 5 ⟨some 103, Op.fieldAddr 55 (Operand.tmp 12) 1, _, _, _, some (4, false)⟩ rfl (fun _ _ _ h => h) ?_ hHeld ?_
                rotate_left
                · (intro W _; go_simp <;> (try with_reducible rfl))
                refine take_v (v := ?_) 6 ⟨some 104, Op.load 9 (Operand.tmp 103), _, _, _, some (4, false)⟩ rfl (fun _ _ _ h => h) ?_ hHeld ?_
                rotate_left
                · (intro W hSW; (have s0 := hSW.1.cell 0 rfl; have s1 := hSW.1.cell 1 rfl; have s2 := hSW.1.2; have s3 := hSW.2.1.cell 3 rfl; have s4 := hSW.2.1.2; have s5 := hSW.2.2); go_simp <;> (try with_reducible rfl))
                refine ready_call 7 ⟨some 105, Op.call { callee := Callee.value (Operand.func 51), args := #[Operand.tmp 104], argTypes := #[9] }, _, _, _, some (4, false)⟩ (by kernel_rfl) rfl (by kernel_rfl) (fun KC hK => ?_)
                go_wp2_with fail
                refine (HL.out _).mono ?_
                rintro r w2 ⟨rfl, rfl⟩
                refine hK.out _ _ hHeld (fun hHeld => ?_)
                clear hK KC
                refine take_v (v := ?_) 8 ⟨some 106, Op.unOp UnOp.not 4 (Operand.tmp 105), _, _, _, some (4, false)⟩ rfl (fun _ _ _ h => h) ?_ hHeld ?_
                rotate_left
                · (intro W _; go_simp <;> (try with_reducible rfl))
                refine take_v (v := ?_) 9 ⟨some 107, Op.pick (Operand.tmp 102) (Operand.const (Value.bool true)) (Operand.tmp 106), _, _, _, none⟩ rfl (fun _ _ _ h => h) ?_ hHeld ?_
                rotate_left
                · (intro W _; go_simp <;> (try with_reducible rfl))
                refine take_v (v := ?_) 10 ⟨some 108, Op.move (Operand.tmp 107), _, _, _, none⟩ rfl (fun _ _ _ h => h) ?_ hHeld ?_
                rotate_left
                · (intro W _; go_simp <;> (try with_reducible rfl))
                refine take_v (v := ?_) 11 ⟨some 109, Op.move (Operand.tmp 11), _, _, _, some (10, false)⟩ rfl (fun _ _ _ h => h) ?_ hHeld ?_
                rotate_left
                · (intro W _; go_simp <;> (try with_reducible rfl))
                refine take_v (v := ?_) 12 ⟨some 110, Op.binOp BinOp.gtr 3 (Operand.tmp 109) (Operand.const (Value.int IntKind.i64 0)) 3, _, _, _, some (10, false)⟩ rfl (fun _ _ _ h => h) ?_ hHeld ?_
                rotate_left
                · (intro W _; go_simp <;> (try with_reducible rfl))
                refine take_v (v := ?_) 13 ⟨some 111, Op.move (Operand.tmp 110), _, _, _, some (10, false)⟩ rfl (fun _ _ _ h => h) ?_ hHeld ?_
                rotate_left
                · (intro W _; go_simp <;> (try with_reducible rfl))
                refine take_v (v := ?_) 14 ⟨some 112, Op.fieldAddr 71 (Operand.tmp 5) 3, _, _, _, some (13, true)⟩ rfl (fun _ _ _ h => h) ?_ hHeld ?_
                rotate_left
                · (intro W _; go_simp <;> (try with_reducible rfl))
                refine take_v (v := ?_) 15 ⟨some 113, Op.load 28 (Operand.tmp 112), _, _, _, some (13, true)⟩ rfl (fun _ _ _ h => h) ?_ hHeld ?_
                rotate_left
                · (intro W hSW; (have s0 := hSW.1.cell 0 rfl; have s1 := hSW.1.cell 1 rfl; have s2 := hSW.1.2; have s3 := hSW.2.1.cell 3 rfl; have s4 := hSW.2.1.2; have s5 := hSW.2.2); go_simp <;> (try with_reducible rfl))
                refine take_v (v := ?_) 16 ⟨some 114, Op.move (Operand.tmp 11), _, _, _, some (13, true)⟩ rfl (fun _ _ _ h => h) ?_ hHeld ?_
                rotate_left
                · (intro W _; go_simp <;> (try with_reducible rfl))
                refine take_v (v := ?_) 17 ⟨some 115, Op.binOp BinOp.sub 3 (Operand.tmp 114) (Operand.const (Value.int IntKind.i64 1)) 3, _, _, _, some (13, true)⟩ rfl (fun _ _ _ h => h) ?_ hHeld ?_
                rotate_left
                · (intro W _; go_simp <;> (try with_reducible rfl))
                refine take_v (v := ?_) 18 ⟨some 116, Op.indexAddr 28 (Operand.tmp 113) (Operand.tmp 115), _, _, _, some (13, true)⟩ rfl (fun _ _ _ h => h) ?_ hHeld ?_
                rotate_left
                · (intro W _; go_simp <;> (try with_reducible rfl))
                refine take_v (v := ?_) 19 ⟨some 117, Op.fieldAddr 55 (Operand.tmp 116) 0, _, _, _, some (13, true)⟩ rfl (fun _ _ _ h => h) ?_ hHeld ?_
                rotate_left
                · (intro W _; go_simp <;> (try with_reducible rfl))
                refine take_v (v := ?_) 20 ⟨some 118, Op.load 9 (Operand.tmp 117), _, _, _, some (13, true)⟩ rfl (fun _ _ _ h => h) ?_ hHeld ?_
                rotate_left
                · (intro W hSW; (have s0 := hSW.1.cell 0 rfl; have s1 := hSW.1.cell 1 rfl; have s2 := hSW.1.2; have s3 := hSW.2.1.cell 3 rfl; have s4 := hSW.2.1.2; have s5 := hSW.2.2); go_simp <;> (try with_reducible rfl))
                refine take_v (v := ?_) 21 ⟨some 119, Op.fieldAddr 55 (Operand.tmp 12) 0, _, _, _, some (13, true)⟩ rfl (fun _ _ _ h => h) ?_ hHeld ?_
                rotate_left
                · (intro W _; go_simp <;> (try with_reducible rfl))
                refine take_v (v := ?_) 22 ⟨some 120, Op.load 9 (Operand.tmp 119), _, _, _, some (13, true)⟩ rfl (fun _ _ _ h => h) ?_ hHeld ?_
                rotate_left
                · (intro W hSW; (have s0 := hSW.1.cell 0 rfl; have s1 := hSW.1.cell 1 rfl; have s2 := hSW.1.2; have s3 := hSW.2.1.cell 3 rfl; have s4 := hSW.2.1.2; have s5 := hSW.2.2); go_simp <;> (try with_reducible rfl))
                refine take_v (v := ?_) 23 ⟨some 121, Op.binOp BinOp.geq 9 (Operand.tmp 118) (Operand.tmp 120) 9, _, _, _, some (13, true)⟩ rfl (fun _ _ _ h => h) ?_ hHeld ?_
                rotate_left
                · (intro W _; go_simp <;> (try with_reducible rfl))
                refine take_v (v := ?_) 24 ⟨some 122, Op.pick (Operand.tmp 111) (Operand.tmp 121) (Operand.const (Value.bool false)), _, _, _, some (10, false)⟩ rfl (fun _ _ _ h => h) ?_ hHeld ?_
                rotate_left
                · (intro W _; go_simp <;> (try with_reducible rfl))
                refine take_v (v := ?_) 25 ⟨some 123, Op.pick (Operand.tmp 108) (Operand.const (Value.bool true)) (Operand.tmp 122), _, _, _, none⟩ rfl (fun _ _ _ h => h) ?_ hHeld ?_
                rotate_left
                · (intro W _; go_simp <;> (try with_reducible rfl))
                refine wpAnyH_done (by kernel_rfl) ?_ _
                refine NoPanic.normal ?_
                go_wp2
                go_ret
                exact ⟨ret_bool HN.out.symm, H1.out.2.2.2.1⟩
              · have HY : Hid (cell1 V.cl i) := HC.out.2 e3'
                go_upto_region 20 with fail
                refine wp_region_noPanic ?_
                refine wp_region_held_drew (S := fun W => Bx W wr.heap.size [.string (V.cl i).f0, .string (V.cl i).f1] ∧ Bx W (w.heap.size + 1) [.int .i64 V.id, .int .i64 V.st, .slice la V.ln lc, .slice (some ⟨b2, o2, none⟩) V.cn cc, .int .i64 V.e, .int .i64 V.s, .bool V.b] ∧ W.cell? ⟨b2, o2 + q * 2, none⟩ = some (.string (V.cl q).f0)) (by kernel_rfl) ⟨H1.out.1, H1.out.2.2.1, HQ1.out⟩ (fun hHeld => ?_)
                refine take_v (v := ?_) 0 ⟨some 98, Op.fieldAddr 55 (Operand.tmp 12) 0, _, _, _, none⟩ rfl (fun _ _ _ h => h) ?_ hHeld ?_
                rotate_left
                · (intro W _; go_simp <;> (try with_reducible rfl))
                refine take_v (v := ?_) 1 ⟨some 99, Op.load 9 (Operand.tmp 98), _, _, _, none⟩ rfl (fun _ _ _ h => h) ?_ hHeld ?_
                rotate_left
                · (intro W hSW; (have s0 := hSW.1.cell 0 rfl; have s1 := hSW.1.cell 1 rfl; have s2 := hSW.1.2; have s3 := hSW.2.1.cell 3 rfl; have s4 := hSW.2.1.2; have s5 := hSW.2.2); go_simp <;> (try with_reducible rfl))
                refine ready_call 2 ⟨some 100, Op.call { callee := Callee.value (Operand.func 50), args := #[Operand.tmp 99], argTypes := #[9] }, _, _, _, none⟩ (by kernel_rfl) rfl (by kernel_rfl) (fun KC hK => ?_)
                go_wp2_with fail
                refine (HK.out _).mono ?_
                rintro r w2 ⟨rfl, rfl⟩
                refine hK.out _ _ hHeld (fun hHeld => ?_)
                clear hK KC
                refine take_v (v := ?_) 3 ⟨some 101, Op.unOp UnOp.not 4 (Operand.tmp 100), _, _, _, none⟩ rfl (fun _ _ _ h => h) ?_ hHeld ?_
                rotate_left
                · (intro W _; go_simp <;> (try with_reducible rfl))
                refine take_v (v := ?_) 4 ⟨some 102, Op.move (Operand.tmp 101), _, _, _, none⟩ rfl (fun _ _ _ h => h) ?_ hHeld ?_
                rotate_left
                · (intro W _; go_simp <;> (try with_reducible rfl))
                refine take_v (v := ?_) 5 ⟨some 103, Op.fieldAddr 55 (Operand.tmp 12) 1, _, _, _, some (4, false)⟩ rfl (fun _ _ _ h => h) ?_ hHeld ?_
                rotate_left
                · (intro W _; go_simp <;> (try with_reducible rfl))
                refine take_v (v := ?_) 6 ⟨some 104, Op.load 9 (Operand.tmp 103), _, _, _, some (4, false)⟩ rfl (fun _ _ _ h => h) ?_ hHeld ?_
                rotate_left
                · (intro W hSW; (have s0 := hSW.1.cell 0 rfl; have s1 := hSW.1.cell 1 rfl; have s2 := hSW.1.2; have s3 := hSW.2.1.cell 3 rfl; have s4 := hSW.2.1.2; have s5 := hSW.2.2); go_simp <;> (try with_reducible rfl))
                refine ready_call 7 ⟨some 105, Op.call { callee := Callee.value (Operand.func 51), args := #[Operand.tmp 104], argTypes := #[9] }, _, _, _, some (4, false)⟩ (by kernel_rfl) rfl (by kernel_rfl) (fun KC hK => ?_)
                go_wp2_with fail
                refine (HL.out _).mono ?_
                rintro r w2 ⟨rfl, rfl⟩
                refine hK.out _ _ hHeld (fun hHeld => ?_)
                clear hK KC
                refine take_v (v := ?_) 8 ⟨some 106, Op.unOp UnOp.not 4 (Operand.tmp 105), _, _, _, some (4, false)⟩ rfl (fun _ _ _ h => h) ?_ hHeld ?_
                rotate_left
                · (intro W _; go_simp <;> (try with_reducible rfl))
                refine take_v (v := ?_) 9 ⟨some 107, Op.pick (Operand.tmp 102) (Operand.const (Value.bool true)) (Operand.tmp 106), _, _, _, none⟩ rfl (fun _ _ _ h => h) ?_ hHeld ?_
                rotate_left
                · (intro W _; go_simp <;> (try with_reducible rfl))
                refine take_v (v := ?_) 10 ⟨some 108, Op.move (Operand.tmp 107), _, _, _, none⟩ rfl (fun _ _ _ h => h) ?_ hHeld ?_
                rotate_left
                · (intro W _; go_simp <;> (try with_reducible rfl))
                refine take_v (v := ?_) 11 ⟨some 109, Op.move (Operand.tmp 11), _, _, _, some (10, false)⟩ rfl (fun _ _ _ h => h) ?_ hHeld ?_
                rotate_left
                · (intro W _; go_simp <;> (try with_reducible rfl))
                refine take_v (v := ?_) 12 ⟨some 110, Op.binOp BinOp.gtr 3 (Operand.tmp 109) (Operand.const (Value.int IntKind.i64 0)) 3, _, _, _, some (10, false)⟩ rfl (fun _ _ _ h => h) ?_ hHeld ?_
                rotate_left
                · (intro W _; go_simp <;> (try with_reducible rfl))
                refine take_v (v := ?_) 13 ⟨some 111, Op.move (Operand.tmp 110), _, _, _, some (10, false)⟩ rfl (fun _ _ _ h => h) ?_ hHeld ?_
                rotate_left
                · (intro W _; go_simp <;> (try with_reducible rfl))
                refine take_v (v := ?_) 14 ⟨some 112, Op.fieldAddr 71 (Operand.tmp 5) 3, _, _, _, some (13, true)⟩ rfl (fun _ _ _ h => h) ?_ hHeld ?_
                rotate_left
                · (intro W _; go_simp <;> (try with_reducible rfl))
                refine take_v (v := ?_) 15 ⟨some 113, Op.load 28 (Operand.tmp 112), _, _, _, some (13, true)⟩ rfl (fun _ _ _ h => h) ?_ hHeld ?_
                rotate_left
                · (intro W hSW; (have s0 := hSW.1.cell 0 rfl; have s1 := hSW.1.cell 1 rfl; have s2 := hSW.1.2; have s3 := hSW.2.1.cell 3 rfl; have s4 := hSW.2.1.2; have s5 := hSW.2.2); go_simp <;> (try with_reducible rfl))
                refine take_v (v := ?_) 16 ⟨some 114, Op.move (Operand.tmp 11), _, _, _, some (13, true)⟩ rfl (fun _ _ _ h => h) ?_ hHeld ?_
                rotate_left
                · (intro W _; go_simp <;> (try with_reducible rfl))
                refine take_v (v := ?_) 17 ⟨some 115, Op.binOp BinOp.sub 3 (Operand.tmp 114) (Operand.const (Value.int IntKind.i64 1)) 3, _, _, _, some (13, true)⟩ rfl (fun _ _ _ h => h) ?_ hHeld ?_
                rotate_left
                · (intro W _; go_simp <;> (try with_reducible rfl))
                refine take_v (v := ?_) 18 ⟨some 116, Op.indexAddr 28 (Operand.tmp 113) (Operand.tmp 115), _, _, _, some (13, true)⟩ rfl (fun _ _ _ h => h) ?_ hHeld ?_
                rotate_left
                · (intro W _; go_simp <;> (try with_reducible rfl))
                refine take_v (v := ?_) 19 ⟨some 117, Op.fieldAddr 55 (Operand.tmp 116) 0, _, _, _, some (13, true)⟩ rfl (fun _ _ _ h => h) ?_ hHeld ?_
                rotate_left
                · (intro W _; go_simp <;> (try with_reducible rfl))
                refine take_v (v := ?_) 20 ⟨some 118, Op.load 9 (Operand.tmp 117), _, _, _, some (13, true)⟩ rfl (fun _ _ _ h => h) ?_ hHeld ?_
                rotate_left
                · (intro W hSW; (have s0 := hSW.1.cell 0 rfl; have s1 := hSW.1.cell 1 rfl; have s2 := hSW.1.2; have s3 := hSW.2.1.cell 3 rfl; have s4 := hSW.2.1.2; have s5 := hSW.2.2); go_simp <;> (try with_reducible rfl))
                refine take_v (v := ?_) 21 ⟨some 119, Op.fieldAddr 55 (Operand.tmp 12) 0, _, _, _, some (13, true)⟩ rfl (fun _ _ _ h => h) ?_ hHeld ?_
                rotate_left
                · (intro W _; go_simp <;> (try with_reducible rfl))
                refine take_v (v := ?_) 22 ⟨some 120, Op.load 9 (Operand.tmp 119), _, _, _, some (13, true)⟩ rfl (fun _ _ _ h => h) ?_ hHeld ?_
                rotate_left
                · (intro W hSW; (have s0 := hSW.1.cell 0 rfl; have s1 := hSW.1.cell 1 rfl; have s2 := hSW.1.2; have s3 := hSW.2.1.cell 3 rfl; have s4 := hSW.2.1.2; have s5 := hSW.2.2); go_simp <;> (try with_reducible rfl))
                refine take_v (v := ?_) 23 ⟨some 121, Op.binOp BinOp.geq 9 (Operand.tmp 118) (Operand.tmp 120) 9, _, _, _, some (13, true)⟩ rfl (fun _ _ _ h => h) ?_ hHeld ?_
                rotate_left
                · (intro W _; go_simp <;> (try with_reducible rfl))
                refine take_v (v := ?_) 24 ⟨some 122, Op.pick (Operand.tmp 111) (Operand.tmp 121) (Operand.const (Value.bool false)), _, _, _, some (10, false)⟩ rfl (fun _ _ _ h => h) ?_ hHeld ?_
                rotate_left
                · (intro W _; go_simp <;> (try with_reducible rfl))
                refine take_v (v := ?_) 25 ⟨some 123, Op.pick (Operand.tmp 108) (Operand.const (Value.bool true)) (Operand.tmp 122), _, _, _, none⟩ rfl (fun _ _ _ h => h) ?_ hHeld ?_
                rotate_left
                · (intro W _; go_simp <;> (try with_reducible rfl))
                refine wpAnyH_done (by kernel_rfl) ?_ _
                refine NoPanic.normal ?_
                clear HQ1 hwq
                have b0 := H1.out.2.1.cell 0 rfl
                have b1' := H1.out.2.1.cell 1 rfl
                have b2' := H1.out.2.1.cell 2 rfl
                have b3' := H1.out.2.1.cell 3 rfl
                have bz := H1.out.2.1.2
                have k0 := H1.out.1.cell 0 rfl
                have kz := H1.out.1.2
                go_wp2_with fail
                refine (l5Find_at ra rc (some ⟨b, off, none⟩) tc oa oc S (V.cl i).f0 _ HS.out.2.2.2.1 (HS.out.2.2.1.below H1.out.2.2.2.1 (Nat.le_refl _))).mono ?_
                rintro r w3 ⟨o, f, rfl, hF, hb⟩
                have HF := (show Hid (_ ∨ _) from hF)
                have H3 : Hid (L5H w [.int .i64 S.ep, .slice ra S.rn rc, .slice (some ⟨b, off, none⟩) S.tn tc, .slice oa S.on oc] [.int .i64 V.id, .int .i64 V.st, .slice la V.ln lc, .slice (some ⟨b2, o2, none⟩) V.cn cc, .int .i64 V.e, .int .i64 V.s, .bool V.b] w3 ∧ Below w.heap.size w (w3.alloc (.cells #[.string o.f0, .string o.f1, .int .i64 o.f2, .int .i64 o.f3, .bool o.f4, .int .i64 o.f5] 52)) ∧ L5H w [.int .i64 S.ep, .slice ra S.rn rc, .slice (some ⟨b, off, none⟩) S.tn tc, .slice oa S.on oc] [.int .i64 V.id, .int .i64 V.st, .slice la V.ln lc, .slice (some ⟨b2, o2, none⟩) V.cn cc, .int .i64 V.e, .int .i64 V.s, .bool V.b] (w3.alloc (.cells #[.string o.f0, .string o.f1, .int .i64 o.f2, .int .i64 o.f3, .bool o.f4, .int .i64 o.f5] 52))) := by
                  have g : L5H w [.int .i64 S.ep, .slice ra S.rn rc, .slice (some ⟨b, off, none⟩) S.tn tc, .slice oa S.on oc] [.int .i64 V.id, .int .i64 V.st, .slice la V.ln lc, .slice (some ⟨b2, o2, none⟩) V.cn cc, .int .i64 V.e, .int .i64 V.s, .bool V.b] w3 := ⟨H1.out.2.1.next hb, H1.out.2.2.1.next hb, below_next' H1.out.2.2.2.1 hb⟩
                  exact ⟨g, below_next' g.2.2 (Go.Joins.below_alloc1 _ _), g.next (Go.Joins.below_alloc1 _ _)⟩
                have HQ9 : Hid (cellsP V.cl i) := H1.out.2.2.2.2.1
                clear hF hb H1 b0 b1' b2' b3' bz k0 kz
                clear HF
                go_wp2
                go_roundw
                case rel => exact ⟨i + 1, by omega, by go_num, upto_succ HQ9.out HY.out, fun _ _ => trivial, H3.out.2.2⟩
                case measure => simp [intOf]; omega
          · have hin : i = V.cn := by omega
            have hic' : ¬ (i : Int) < (V.cn : Int) := by omega
            have HCL : Hid (cellsP V.cl V.cn) := by rw [hin] at hall; exact hall
            have HX1 : Hid (L5H w [.int .i64 S.ep, .slice ra S.rn rc, .slice (some ⟨b, off, none⟩) S.tn tc, .slice oa S.on oc] [.int .i64 V.id, .int .i64 V.st, .slice la V.ln lc, .slice ca V.cn cc, .int .i64 V.e, .int .i64 V.s, .bool V.b] wr) := hL
            have t1 := hL.2.1.cell 1 rfl
            have t4 := hL.2.1.cell 4 rfl
            have t5 := hL.2.1.cell 5 rfl
            have t6 := hL.2.1.cell 6 rfl
            have tz := hL.2.1.2
            have HT : Hid (clB (txnV S V k) = tidOk V.st V.e V.s V.b) := txn_is HID.out e0 HLO.out HCL.out (fun h => by rw [HM.out] at h; cases h)
            clear hall hown hL hin
            have HT2 : Hid (clB (txnV S V k) = tidE V.e V.s V.b 0 0 false) := by show _ = _; rw [HT.out, tidOk, if_neg (by rw [HB.out]; simp)]
            have r0 := run_eqTid V.e V.s V.b 0 0 false
            go_wp2
            go_ret
            exact ⟨ret_bool HT2.out.symm, HX1.out.2.2⟩
end Go.Proofs.YtenfaofhoheleaaGreat
