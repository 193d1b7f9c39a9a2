/- The contracts of ReplayOrder, on both sides. Written by tools/mkRo.py. -/
import Derived.Test.YtenfaofhoheleaaGreatPv3
import Derived.Test.YtenfaofhoheleaaGreatMp
namespace Go.Proofs.YtenfaofhoheleaaGreat
open Go.RowKit
set_option linter.unusedVariables false

def wrL (V : RuV) (L0 : List CellV) : Nat → List CellV
  | 0 => L0
  | j + 1 => putL (wrL V L0 j) (V.cl j)
def rpL (S : StV) : Nat → List CellV
  | 0 => []
  | i + 1 => wrL (S.T (S.O i - 1).toNat) (rpL S i) (S.T (S.O i - 1).toNat).cn
theorem wrL_len (V : RuV) (L0 : List CellV) : ∀ j, (wrL V L0 j).length ≤ L0.length + j
  | 0 => Nat.le_refl _
  | j + 1 => by
    have h1 := wrL_len V L0 j
    have h2 := putL_len (wrL V L0 j) (V.cl j)
    rw [wrL]; omega
theorem wrL_rise (V : RuV) {L0 : List CellV} (h : riseL L0) : ∀ j, riseL (wrL V L0 j)
  | 0 => h
  | j + 1 => putL_rise _ (wrL_rise V h j)
theorem rpL_rise (S : StV) : ∀ i, riseL (rpL S i)
  | 0 => fun i hi => absurd hi (by simp [rpL])
  | i + 1 => wrL_rise _ (rpL_rise S i) _
theorem rpL_at {S : StV} {i q : Nat} (h : S.O i = (q : Int) + 1) : rpL S (i + 1) = wrL (S.T q) (rpL S i) (S.T q).cn := by
  have e : (S.O i - 1).toNat = q := by omega
  rw [rpL, e]
theorem rpL_len {S : StV} (hc : ∀ q, q < S.tn → (S.T q).cn ≤ 1048576) (ho : ∀ i, i < S.on → ∃ q : Nat, q < S.tn ∧ S.O i = (q : Int) + 1 ∧ hasB (S.T q).st = true) : ∀ i, i ≤ S.on → (rpL S i).length ≤ i * 1048576
  | 0, _ => by simp [rpL]
  | i + 1, hi => by
    obtain ⟨q, hq, hO, _⟩ := ho i (by omega)
    have h1 := rpL_len hc ho i (by omega)
    have h2 := wrL_len (S.T q) (rpL S i) (S.T q).cn
    have h3 := hc q hq
    rw [rpL_at hO]; omega
theorem cell_sz {C : Nat → CellV} {i : Nat} (h : cell1 C i) : (C i).f0.size ≤ 8 ∧ (C i).f1.size ≤ 20 := by
  have h1 := h.1.1
  have h2 := h.1.2
  simp only [keyOk, valOk, Bool.and_eq_true, decide_eq_true_eq] at h1 h2
  have := inR_iff.1 h1.1
  exact ⟨by omega, h2.1⟩
noncomputable def roB (S : StV) (many : Int) : Bool := goodB S && inR many 0 (S.on : Int)
noncomputable def roL (S : StV) (many : Int) : List CellV := if roB S many = true then rpL S many.toNat else []
theorem ro_no {S : StV} {many : Int} {w w' : World} (h : roB S many = false) (hb : Below w.heap.size w w') : MapPost (roL S many) (roB S many) w (.returned (.tuple #[.slice none 0 0, .bool false])) w' := by
  have e : roL S many = [] := by simp [roL, h]
  rw [e, h]
  exact ⟨⟨none, 0, rfl, Or.inl rfl, Nat.le_refl _⟩, hb⟩
theorem roL_len {S : StV} (many : Int) (hc : ∀ q, q < S.tn → (S.T q).cn ≤ 1048576) : (roL S many).length ≤ 20971520 := by
  unfold roL
  split
  · rename_i h
    rw [roB, Bool.and_eq_true] at h
    have hg : goodP S := clB_iff.1 h.1
    have hi := inR_iff.1 h.2
    have h1 := hg.2.2.2.1
    have h2 := idsL_len S.T S.tn
    have h3 := hg.1.2.2
    have := rpL_len hc (fun i hi => (hg.2.2.2.2 i hi).1) many.toNat (by omega)
    omega
  · simp

set_option maxRecDepth 100000 in
set_option maxHeartbeats 8000000 in
theorem replayOrder_at (ra : Option Addr) (rc : Nat) (ta : Option Addr) (tc : Nat) (oa : Option Addr) (oc : Nat) (U : Nat → RuA) (S : StV) (many : Int) (w : World) (hl : StLen S) (hok : StOk S) (hs : StAt w ⟨ra, rc, ta, tc, oa, oc, U⟩ S) :
    Calls Tryz.prog 16 #[.agg #[.int .i64 S.ep, .slice ra S.rn rc, .slice ta S.tn tc, .slice oa S.on oc], .int .i64 many] w fun r w' => MapPost (roL S many) (roB S many) w r w' := by
  have HS : Hid (StAt w ⟨ra, rc, ta, tc, oa, oc, U⟩ S ∧ StLen S ∧ StOk S) := ⟨hs, hl, hok⟩
  have hcap : S.on ≤ oc := hs.2.2.2.2.2
  have hon := hok.2.2
  clear hs hl hok
  have HX0 : Hid (Bx (w.alloc (.cells #[.int .i64 S.ep, .slice ra S.rn rc, .slice ta S.tn tc, .slice oa S.on oc] 34)) w.heap.size [.int .i64 S.ep, .slice ra S.rn rc, .slice ta S.tn tc, .slice oa S.on oc] ∧ Below w.heap.size w (w.alloc (.cells #[.int .i64 S.ep, .slice ra S.rn rc, .slice ta S.tn tc, .slice oa S.on oc] 34))) := ⟨Bx.new w [.int .i64 S.ep, .slice ra S.rn rc, .slice ta S.tn tc, .slice oa S.on oc] _, Go.Joins.below_alloc1 _ _⟩
  go_enter Tryz.func16, Tryz.ntmps16
  go_wp2_with fail
  refine (goodStore_any ⟨ra, rc, ta, tc, oa, oc, U⟩ S _ HS.out.2.1 HS.out.2.2 (HS.out.1.next HX0.out.2)).mono ?_
  rintro r w1 ⟨rfl, hb⟩
  have H1 : Hid (Bx w1 w.heap.size [.int .i64 S.ep, .slice ra S.rn rc, .slice ta S.tn tc, .slice oa S.on oc] ∧ Below w.heap.size w w1) := ⟨HX0.out.1.next hb, HX0.out.2.trans (hb.mono HX0.out.2.size)⟩
  clear hb HX0
  cases eg : goodB S
  · have HN : Hid (MapPost (roL S many) (roB S many) w (.returned (.tuple #[.slice none 0 0, .bool false])) w1) := ro_no (by rw [roB, eg]; rfl) H1.out.2
    go_wp2
    exact bodyPost_ret (v := .tuple #[.slice none 0 0, .bool false]) (by simp [results, Tryz.results16, go_sem]) rfl HN.out
  have HG : Hid (goodP S) := clB_iff.1 eg
  have b0 := H1.out.1.cell 0 rfl
  have b1 := H1.out.1.cell 1 rfl
  have b2 := H1.out.1.cell 2 rfl
  have b3 := H1.out.1.cell 3 rfl
  have bz := H1.out.1.2
  cases ei : inR many 0 (S.on : Int)
  · have HN : Hid (MapPost (roL S many) (roB S many) w (.returned (.tuple #[.slice none 0 0, .bool false])) w1) := ro_no (by rw [roB, ei, eg]; rfl) H1.out.2
    go_wp2_with (go_at_call 40; refine (inRange_any _ _ _ _).mono ?_; rintro e w' ⟨rfl, rfl⟩)
    exact bodyPost_ret (v := .tuple #[.slice none 0 0, .bool false]) (by simp [results, Tryz.results16, go_sem]) rfl HN.out
  have hb := inR_iff.1 ei
  obtain ⟨m, rfl⟩ : ∃ m : Nat, many = (m : Int) := ⟨many.toNat, by omega⟩
  have hmo : m ≤ S.on := by omega
  have ho20 : S.on ≤ 20 := by
    have h1 := HG.out.2.2.2.1
    have h2 := idsL_len S.T S.tn
    have h3 := HG.out.1.2.2
    omega
  have HRB : Hid (roB S (m : Int) = true) := by show _ = _; rw [roB, eg, ei]; rfl
  have HRL : Hid (roL S (m : Int) = rpL S m) := by show _ = _; rw [roL, if_pos HRB.out]; simp
  have hmc : (m : Int) ≤ (oc : Int) := by omega
  have HI : Hid (∀ W, Calls Tryz.prog 40 #[.int .i64 (m : Int), .int .i64 0, .int .i64 (S.on : Int)] W fun r w' => r = .returned (.bool true) ∧ w' = W) := fun W => by have := inRange_any (m : Int) 0 (S.on : Int) W; rw [ei] at this; exact this
  clear hb ei eg
  go_wp2_with (go_at_call 40; refine (HI.out _).mono ?_; rintro e w' ⟨rfl, rfl⟩)
  clear b0 b1 b2 b3 bz
  go_loopw [27, 6] (fun z v wr => ∃ i : Nat, i ≤ m ∧ z = .int .i64 i ∧ wr.ownsRow w'.heap.size 55 2 v (rpL S i).length (cellsC (rpL S i)) ∧ Below w'.heap.size w' wr) (fun z _ _ => m - (intOf z).toNat)
  case atStart => exact ⟨0, Nat.zero_le _, rfl, World.ownsRow_nil _ _ _ _, Below.refl _ _⟩
  case round =>
    obtain ⟨i, hi, rfl, hown, hBr⟩ := hrel
    obtain ⟨wo, hwo⟩ : ∃ y, y = wr := ⟨wr, rfl⟩
    subst hwo
    by_cases hlt : i < m
    · have hbw : Below w.heap.size w wo := H1.out.2.trans (hBr.mono H1.out.2.size)
      have hio : i < S.on := by omega
      obtain ⟨⟨q, hq, hOq, _⟩, _⟩ := HG.out.2.2.2.2 i hio
      have hsl : Sl wo oa S.on 1 (intF S.O) := (HS.out.1.next hbw).2.2.1
      have hsl2 : Sl wo ta S.tn 7 (ruF S.T U) := (HS.out.1.next hbw).2.1.1
      rcases hsl with h | ⟨b3, o3, rfl, hbs3, hE3⟩
      · omega
      rcases hsl2 with h | ⟨b1, o1, rfl, hbs1, hE1⟩
      · omega
      have d0 := int_cell hE3 hio
      obtain ⟨c0, c1, c2, c3, c4, c5, c6⟩ := ru_cells hE1 hq
      obtain ⟨Xq, hXq⟩ : ∃ Xq, Xq = U q := ⟨_, rfl⟩
      rw [← hXq] at c3
      obtain ⟨la, lc, ca, cc⟩ := Xq
      simp only at c3
      have HCA : Hid (∀ W, Below w.heap.size w W → Sl W ca (S.T q).cn 2 (cellF (S.T q).cl)) := fun W hW => by
        have h9 : Sl W (U q).ca (S.T q).cn 2 (cellF (S.T q).cl) := ((HS.out.1.next hW).2.1.2 q hq).2.1
        rw [← hXq] at h9; exact h9
      have hlt' : (i : Int) < (m : Int) := by omega
      have hqt : (q : Int) < (S.tn : Int) := by omega
      have htn : S.tn ≤ 1048576 := HS.out.2.2.2.1.1
      rw [hOq] at d0
      have hsub : IntKind.i64.wrap ((q : Int) + 1 - 1) = (q : Int) := by rw [IntKind.wrap_i64]; omega
      have hcn : (S.T q).cn ≤ 1048576 := (HS.out.2.2.2.1.2 q hq).2
      have HQ : Hid (cellsP (S.T q).cl (S.T q).cn ∧ rpL S (i + 1) = wrL (S.T q) (rpL S i) (S.T q).cn) := ⟨(HG.out.2.2.1 q hq).2.1.2.2.1, rpL_at hOq⟩
      have bt := (H1.out.1.next hBr).cell 2 rfl
      have btz := (H1.out.1.next hBr).2
      have HO : Hid (wo.ownsRow w'.heap.size 55 2 u6 (rpL S i).length (cellsC (rpL S i)) ∧ Below w'.heap.size w' wo) := ⟨hown, hBr⟩
      have hlenI : (rpL S i).length ≤ i * 1048576 := rpL_len (fun k hk => (HS.out.2.2.2.1.2 k hk).2) (fun k hk => (HG.out.2.2.2.2 k hk).1) i (by omega)
      have him : i * 1048576 ≤ 20971520 := by omega
      clear hown hBr hE3 hE1 hbw hXq hOq
      go_wp2
      clear d0 c0 c1 c2 c3 c4 c5 c6 bt btz hsub
      go_loopw [39, 6] (fun z v wr => ∃ j : Nat, j ≤ (S.T q).cn ∧ z = .int .i64 j ∧ wr.ownsRow w'.heap.size 55 2 v (wrL (S.T q) (rpL S i) j).length (cellsC (wrL (S.T q) (rpL S i) j)) ∧ Below w'.heap.size w' wr) (fun z _ _ => (S.T q).cn - (intOf z).toNat)
      case atStart => exact ⟨0, Nat.zero_le _, rfl, HO.out.1, HO.out.2⟩
      case round =>
        obtain ⟨j, hj, rfl, hown, hBr⟩ := hrel
        by_cases hjc : j < (S.T q).cn
        · have hjc' : (j : Int) < ((S.T q).cn : Int) := by omega
          rcases HCA.out wr (H1.out.2.trans (hBr.mono H1.out.2.size)) with h | ⟨b2, o2, rfl, hbs2, hE2⟩
          · omega
          obtain ⟨e0, e1⟩ := cell_cells hE2 hjc
          have hsz := cell_sz (HQ.out.1 j hjc)
          have hwl := wrL_len (S.T q) (rpL S i) j
          have HOB : Hid (∀ b, (u6 : Value).ownBlock = some b → b < wr.heap.size) := fun b hb => (hown.lt b hb).2
          have H5 : Hid (Bx (wr.alloc (.cells #[.string ((S.T q).cl j).f0, .string ((S.T q).cl j).f1] 55)).drew wr.heap.size [.string ((S.T q).cl j).f0, .string ((S.T q).cl j).f1] ∧ (wr.alloc (.cells #[.string ((S.T q).cl j).f0, .string ((S.T q).cl j).f1] 55)).drew.ownsRow w'.heap.size 55 2 u6 (wrL (S.T q) (rpL S i) j).length (cellsC (wrL (S.T q) (rpL S i) j)) ∧ Below w'.heap.size w' (wr.alloc (.cells #[.string ((S.T q).cl j).f0, .string ((S.T q).cl j).f1] 55)).drew) := ⟨(Bx.new wr [.string ((S.T q).cl j).f0, .string ((S.T q).cl j).f1] 55).next (Below.refl _ _).drew, own_keep hown ((Go.Joins.below_alloc1 _ _).drew), hBr.trans (((Go.Joins.below_alloc1 _ _).drew : Below wr.heap.size wr (wr.alloc (.cells #[.string ((S.T q).cl j).f0, .string ((S.T q).cl j).f1] 55)).drew).mono hBr.size)⟩
          clear hown hBr hE2 hbs2 HO
          go_upto_region 10 with fail
          refine wp_region_noPanic ?_
          refine wp_region_held_drew (S := fun W => Bx W wr.heap.size [.string ((S.T q).cl j).f0, .string ((S.T q).cl j).f1]) (by kernel_rfl) H5.out.1 (fun hHeld => ?_)
          refine take_v (v := ?_) 0 ⟨some 43, Op.move (Operand.tmp 6), _, _, _, none⟩ rfl (fun _ _ _ h => h) ?_ hHeld ?_
          rotate_left
          · (intro W _; go_simp <;> (try with_reducible rfl))
          refine take_v (v := ?_) 1 ⟨some 44, Op.fieldAddr 55 (Operand.tmp 10) 0, _, _, _, none⟩ rfl (fun _ _ _ h => h) ?_ hHeld ?_
          rotate_left
          · (intro W _; go_simp <;> (try with_reducible rfl))
          refine take_v (v := ?_) 2 ⟨some 45, Op.load 9 (Operand.tmp 44), _, _, _, none⟩ rfl (fun _ _ _ h => h) ?_ hHeld ?_
          rotate_left
          · (intro W hSW; (have s0 := hSW.cell 0 rfl; have s1 := hSW.cell 1 rfl; have s2 := hSW.2); go_simp <;> (try with_reducible rfl))
          refine take_v (v := ?_) 3 ⟨some 46, Op.fieldAddr 55 (Operand.tmp 10) 1, _, _, _, none⟩ rfl (fun _ _ _ h => h) ?_ hHeld ?_
          rotate_left
          · (intro W _; go_simp <;> (try with_reducible rfl))
          refine take_v (v := ?_) 4 ⟨some 47, Op.load 9 (Operand.tmp 46), _, _, _, none⟩ rfl (fun _ _ _ h => h) ?_ hHeld ?_
          rotate_left
          · (intro W hSW; (have s0 := hSW.cell 0 rfl; have s1 := hSW.cell 1 rfl; have s2 := hSW.2); go_simp <;> (try with_reducible rfl))
          refine ready_call 5 ⟨some 48, Op.call { callee := Callee.value (Operand.func 42), args := #[Operand.tmp 47], argTypes := #[9] }, _, _, _, none⟩ (by kernel_rfl) rfl (by kernel_rfl) (fun KC hK => ?_)
          go_wp2_with fail
          refine (clone_any _ _ (by omega)).mono ?_
          rintro r w6 ⟨rfl, hb⟩
          have H6 : Hid (Bx w6 wr.heap.size [.string ((S.T q).cl j).f0, .string ((S.T q).cl j).f1] ∧ w6.ownsRow w'.heap.size 55 2 u6 (wrL (S.T q) (rpL S i) j).length (cellsC (wrL (S.T q) (rpL S i) j)) ∧ Below w'.heap.size w' w6) := ⟨H5.out.1.next hb, own_keep H5.out.2.1 hb, H5.out.2.2.trans (hb.mono H5.out.2.2.size)⟩
          clear hb
          refine hK.out _ _ H6.out.1 (fun hHeld => ?_)
          clear hK KC
          refine ready_call 6 ⟨some 49, Op.call { callee := Callee.value (Operand.func 41), args := #[Operand.tmp 43, Operand.tmp 45, Operand.tmp 48], argTypes := #[28, 9, 9] }, _, _, _, none⟩ (by kernel_rfl) rfl (by kernel_rfl) (fun KC hK => ?_)
          go_wp2_with fail
          refine (putValue_any w'.heap.size _ (wrL (S.T q) (rpL S i) j) ((S.T q).cl j) _ (by omega) (by omega) (wrL_rise _ (rpL_rise S i) j) H6.out.2.2.size H6.out.2.1).mono ?_
          rintro r w7 ⟨⟨v7, rfl, ho7, hb7⟩, hbx⟩
          have H7 : Hid (Bx w7 wr.heap.size [.string ((S.T q).cl j).f0, .string ((S.T q).cl j).f1] ∧ w7.ownsRow w'.heap.size 55 2 v7 (wrL (S.T q) (rpL S i) (j + 1)).length (cellsC (wrL (S.T q) (rpL S i) (j + 1))) ∧ Below w'.heap.size w' w7) := ⟨hbx _ _ H6.out.1 (fun e => by have := HOB.out _ e; omega), ho7, hb7 _ _ H6.out.2.2 (Nat.le_refl _) H6.out.2.2.size⟩
          clear ho7 hb7 hbx
          refine hK.out _ _ H7.out.1 (fun hHeld => ?_)
          clear hK KC
          refine take_v (v := ?_) 7 ⟨some 6, Op.assign (Operand.tmp 49), _, _, _, none⟩ rfl (fun _ _ _ h => h) ?_ hHeld ?_
          rotate_left
          · (intro W _; go_simp <;> (try with_reducible rfl))
          refine wpAnyH_done (by kernel_rfl) ?_ _
          refine NoPanic.normal ?_
          go_wp2
          go_roundw
          case rel => exact ⟨j + 1, by omega, by go_num, H7.out.2.1, H7.out.2.2⟩
          case measure => simp [intOf]; omega
        · have hjn : j = (S.T q).cn := by omega
          have hjc' : ¬ (j : Int) < ((S.T q).cn : Int) := by omega
          have H5 : Hid (wr.ownsRow w'.heap.size 55 2 u6 (rpL S (i + 1)).length (cellsC (rpL S (i + 1))) ∧ Below w'.heap.size w' wr) := by
            rw [HQ.out.2, ← hjn]; exact ⟨hown, hBr⟩
          clear hown hBr hjn HO
          go_wp2
          go_roundw
          case rel => exact ⟨i + 1, by omega, by go_num, H5.out.1, H5.out.2⟩
          case measure => simp [intOf]; omega
    · have him : i = m := by omega
      have hlt' : ¬ (i : Int) < (m : Int) := by omega
      subst him
      obtain ⟨a4, cap4, rfl, _, hx⟩ := SRow.of (F := cellF (cV (rpL S i))) (c := 2) hown
      have HF : Hid (MapPost (roL S (i : Int)) (roB S (i : Int)) w (.returned (.tuple #[.slice a4 (rpL S i).length cap4, .bool true])) wo) := by
        rw [HRL.out, HRB.out]
        exact ⟨⟨a4, cap4, rfl, hx.wide H1.out.2.size⟩, H1.out.2.trans (hBr.mono H1.out.2.size)⟩
      clear hown hBr hx
      go_wp2
      exact bodyPost_ret (v := .tuple #[.slice a4 (rpL S i).length cap4, .bool true]) (by simp [results, Tryz.results16, go_sem]) rfl HF.out
theorem replayOrder_any (A : StA) (S : StV) (many : Int) (w : World) (hl : StLen S) (hok : StOk S) (hs : StAt w A S) :
    Calls Tryz.prog 16 #[.agg #[.int .i64 S.ep, .slice A.ra S.rn A.rc, .slice A.ta S.tn A.tc, .slice A.oa S.on A.oc], .int .i64 many] w fun r w' => MapPost (roL S many) (roB S many) w r w' :=
  replayOrder_at A.ra A.rc A.ta A.tc A.oa A.oc A.U S many w hl hok hs

set_option maxRecDepth 100000 in
set_option maxHeartbeats 8000000 in
theorem l5Replay_at (ra : Option Addr) (rc : Nat) (ta : Option Addr) (tc : Nat) (oa : Option Addr) (oc : Nat) (U : Nat → RuA) (S : StV) (m : Nat) (w : World) (hl : StLen S) (hok : StOk S) (hg : goodP S) (hmo : m ≤ S.on) (ho20 : S.on ≤ 20) (hs : StAt w ⟨ra, rc, ta, tc, oa, oc, U⟩ S) :
    Calls Tryz.prog 39 #[.agg #[.int .i64 S.ep, .slice ra S.rn rc, .slice ta S.tn tc, .slice oa S.on oc], .int .i64 (m : Int)] w fun r w' => PutPost (w.heap.size + 1) (rpL S m) w r w' := by
  have HS : Hid (StAt w ⟨ra, rc, ta, tc, oa, oc, U⟩ S ∧ StLen S ∧ StOk S) := ⟨hs, hl, hok⟩
  have HG : Hid (goodP S) := hg
  have hcap : S.on ≤ oc := hs.2.2.2.2.2
  have hmc : (m : Int) ≤ (oc : Int) := by omega
  clear hs hl hok hg
  obtain ⟨w1, hw1⟩ : ∃ y, y = (w.alloc (.cells #[.int .i64 S.ep, .slice ra S.rn rc, .slice ta S.tn tc, .slice oa S.on oc] 34)) := ⟨_, rfl⟩
  have H1 : Hid (Bx w1 w.heap.size [.int .i64 S.ep, .slice ra S.rn rc, .slice ta S.tn tc, .slice oa S.on oc] ∧ Below w.heap.size w w1) := by rw [hw1]; exact ⟨Bx.new w [.int .i64 S.ep, .slice ra S.rn rc, .slice ta S.tn tc, .slice oa S.on oc] _, Go.Joins.below_alloc1 _ _⟩
  have hz1 : w1.heap.size = w.heap.size + 1 := by rw [hw1]; simp
  go_enter Tryz.func39, Tryz.ntmps39
  go_wp2
  rw [← hw1]
  clear hw1
  go_loopw [15, 5] (fun z v wr => ∃ i : Nat, i ≤ m ∧ z = .int .i64 i ∧ wr.ownsRow w1.heap.size 55 2 v (rpL S i).length (cellsC (rpL S i)) ∧ Below w1.heap.size w1 wr) (fun z _ _ => m - (intOf z).toNat)
  case atStart => exact ⟨0, Nat.zero_le _, rfl, World.ownsRow_nil _ _ _ _, Below.refl _ _⟩
  case round =>
    obtain ⟨i, hi, rfl, hown, hBr⟩ := hrel
    obtain ⟨wo, hwo⟩ : ∃ y, y = wr := ⟨wr, rfl⟩
    subst hwo
    by_cases hlt : i < m
    · have hbw : Below w.heap.size w wo := H1.out.2.trans (hBr.mono H1.out.2.size)
      have hio : i < S.on := by omega
      obtain ⟨⟨q, hq, hOq, _⟩, _⟩ := HG.out.2.2.2.2 i hio
      have hsl : Sl wo oa S.on 1 (intF S.O) := (HS.out.1.next hbw).2.2.1
      have hsl2 : Sl wo ta S.tn 7 (ruF S.T U) := (HS.out.1.next hbw).2.1.1
      rcases hsl with h | ⟨b3, o3, rfl, hbs3, hE3⟩
      · omega
      rcases hsl2 with h | ⟨b1, o1, rfl, hbs1, hE1⟩
      · omega
      have d0 := int_cell hE3 hio
      obtain ⟨c0, c1, c2, c3, c4, c5, c6⟩ := ru_cells hE1 hq
      obtain ⟨Xq, hXq⟩ : ∃ Xq, Xq = U q := ⟨_, rfl⟩
      rw [← hXq] at c3
      obtain ⟨la, lc, ca, cc⟩ := Xq
      simp only at c3
      have HCA : Hid (∀ W, Below w.heap.size w W → Sl W ca (S.T q).cn 2 (cellF (S.T q).cl)) := fun W hW => by
        have h9 : Sl W (U q).ca (S.T q).cn 2 (cellF (S.T q).cl) := ((HS.out.1.next hW).2.1.2 q hq).2.1
        rw [← hXq] at h9; exact h9
      have hlt' : (i : Int) < (m : Int) := by omega
      have hqt : (q : Int) < (S.tn : Int) := by omega
      have htn : S.tn ≤ 1048576 := HS.out.2.2.2.1.1
      rw [hOq] at d0
      have hsub : IntKind.i64.wrap ((q : Int) + 1 - 1) = (q : Int) := by rw [IntKind.wrap_i64]; omega
      have hcn : (S.T q).cn ≤ 1048576 := (HS.out.2.2.2.1.2 q hq).2
      have HQ : Hid (cellsP (S.T q).cl (S.T q).cn ∧ rpL S (i + 1) = wrL (S.T q) (rpL S i) (S.T q).cn) := ⟨(HG.out.2.2.1 q hq).2.1.2.2.1, rpL_at hOq⟩
      have bt := (H1.out.1.next hBr).cell 2 rfl
      have btz := (H1.out.1.next hBr).2
      have HO : Hid (wo.ownsRow w1.heap.size 55 2 u5 (rpL S i).length (cellsC (rpL S i)) ∧ Below w1.heap.size w1 wo) := ⟨hown, hBr⟩
      have hlenI : (rpL S i).length ≤ i * 1048576 := rpL_len (fun k hk => (HS.out.2.2.2.1.2 k hk).2) (fun k hk => (HG.out.2.2.2.2 k hk).1) i (by omega)
      have him : i * 1048576 ≤ 20971520 := by omega
      clear hown hBr hE3 hE1 hbw hXq hOq
      go_wp2
      clear d0 c0 c1 c2 c3 c4 c5 c6 bt btz hsub
      go_loopw [27, 5] (fun z v wr => ∃ j : Nat, j ≤ (S.T q).cn ∧ z = .int .i64 j ∧ wr.ownsRow w1.heap.size 55 2 v (wrL (S.T q) (rpL S i) j).length (cellsC (wrL (S.T q) (rpL S i) j)) ∧ Below w1.heap.size w1 wr) (fun z _ _ => (S.T q).cn - (intOf z).toNat)
      case atStart => exact ⟨0, Nat.zero_le _, rfl, HO.out.1, HO.out.2⟩
      case round =>
        obtain ⟨j, hj, rfl, hown, hBr⟩ := hrel
        by_cases hjc : j < (S.T q).cn
        · have hjc' : (j : Int) < ((S.T q).cn : Int) := by omega
          rcases HCA.out wr (H1.out.2.trans (hBr.mono H1.out.2.size)) with h | ⟨b2, o2, rfl, hbs2, hE2⟩
          · omega
          obtain ⟨e0, e1⟩ := cell_cells hE2 hjc
          have hsz := cell_sz (HQ.out.1 j hjc)
          have hwl := wrL_len (S.T q) (rpL S i) j
          have HOB : Hid (∀ b, (u5 : Value).ownBlock = some b → b < wr.heap.size) := fun b hb => (hown.lt b hb).2
          have H5 : Hid (Bx (wr.alloc (.cells #[.string ((S.T q).cl j).f0, .string ((S.T q).cl j).f1] 55)) wr.heap.size [.string ((S.T q).cl j).f0, .string ((S.T q).cl j).f1] ∧ (wr.alloc (.cells #[.string ((S.T q).cl j).f0, .string ((S.T q).cl j).f1] 55)).ownsRow w1.heap.size 55 2 u5 (wrL (S.T q) (rpL S i) j).length (cellsC (wrL (S.T q) (rpL S i) j)) ∧ Below w1.heap.size w1 (wr.alloc (.cells #[.string ((S.T q).cl j).f0, .string ((S.T q).cl j).f1] 55))) := ⟨(Bx.new wr [.string ((S.T q).cl j).f0, .string ((S.T q).cl j).f1] 55), own_keep hown ((Go.Joins.below_alloc1 _ _)), hBr.trans (((Go.Joins.below_alloc1 _ _) : Below wr.heap.size wr (wr.alloc (.cells #[.string ((S.T q).cl j).f0, .string ((S.T q).cl j).f1] 55))).mono hBr.size)⟩
          clear hown hBr hE2 hbs2 HO
          have k0 := H5.out.1.cell 0 rfl
          have k1 := H5.out.1.cell 1 rfl
          have kz := H5.out.1.2
          go_wp2_with fail
          refine (l3Cells_any w1.heap.size _ (wrL (S.T q) (rpL S i) j) ((S.T q).cl j) _ (by omega) H5.out.2.2.size H5.out.2.1).mono ?_
          rintro r w7 ⟨v7, rfl, ho7, hb7⟩
          have H7 : Hid (w7.ownsRow w1.heap.size 55 2 v7 (wrL (S.T q) (rpL S i) (j + 1)).length (cellsC (wrL (S.T q) (rpL S i) (j + 1))) ∧ Below w1.heap.size w1 w7) := ⟨ho7, hb7 _ _ H5.out.2.2 (Nat.le_refl _) H5.out.2.2.size⟩
          clear ho7 hb7 H5 k0 k1 kz
          go_wp2
          go_roundw
          case rel => exact ⟨j + 1, by omega, by go_num, H7.out.1, H7.out.2⟩
          case measure => simp [intOf]; omega
        · have hjn : j = (S.T q).cn := by omega
          have hjc' : ¬ (j : Int) < ((S.T q).cn : Int) := by omega
          have H5 : Hid (wr.ownsRow w1.heap.size 55 2 u5 (rpL S (i + 1)).length (cellsC (rpL S (i + 1))) ∧ Below w1.heap.size w1 wr) := by
            rw [HQ.out.2, ← hjn]; exact ⟨hown, hBr⟩
          clear hown hBr hjn HO
          go_wp2
          go_roundw
          case rel => exact ⟨i + 1, by omega, by go_num, H5.out.1, H5.out.2⟩
          case measure => simp [intOf]; omega
    · have him : i = m := by omega
      have hlt' : ¬ (i : Int) < (m : Int) := by omega
      subst him
      have HF : Hid (PutPost (w.heap.size + 1) (rpL S i) w (.returned u5) wo) := ⟨u5, rfl, by rw [hz1] at hown; exact hown, fun B w0 h h1 h2 => h.trans ((H1.out.2.trans (hBr.mono H1.out.2.size)).mono h2)⟩
      clear hown hBr
      go_wp2
      go_ret
      exact HF.out

set_option maxRecDepth 100000 in
set_option maxHeartbeats 8000000 in
theorem specReplayOrder_at (ra : Option Addr) (rc : Nat) (ta : Option Addr) (tc : Nat) (oa : Option Addr) (oc : Nat) (U : Nat → RuA) (S : StV) (many : Int) (w : World) (hl : StLen S) (hok : StOk S) (hs : StAt w ⟨ra, rc, ta, tc, oa, oc, U⟩ S) :
    Calls Tryz.prog 15 #[.agg #[.int .i64 S.ep, .slice ra S.rn rc, .slice ta S.tn tc, .slice oa S.on oc], .int .i64 many] w fun r w' => MapPost (roL S many) (roB S many) w r w' := by
  have HS : Hid (StAt w ⟨ra, rc, ta, tc, oa, oc, U⟩ S ∧ StLen S ∧ StOk S) := ⟨hs, hl, hok⟩
  have hcap : S.on ≤ oc := hs.2.2.2.2.2
  have hon := hok.2.2
  clear hs hl hok
  have HX0 : Hid (Bx (w.alloc (.cells #[.int .i64 S.ep, .slice ra S.rn rc, .slice ta S.tn tc, .slice oa S.on oc] 34)) w.heap.size [.int .i64 S.ep, .slice ra S.rn rc, .slice ta S.tn tc, .slice oa S.on oc] ∧ Below w.heap.size w (w.alloc (.cells #[.int .i64 S.ep, .slice ra S.rn rc, .slice ta S.tn tc, .slice oa S.on oc] 34))) := ⟨Bx.new w [.int .i64 S.ep, .slice ra S.rn rc, .slice ta S.tn tc, .slice oa S.on oc] _, Go.Joins.below_alloc1 _ _⟩
  go_enter Tryz.func15, Tryz.ntmps15
  go_wp2_with fail
  refine (specGoodStore_any ⟨ra, rc, ta, tc, oa, oc, U⟩ S _ HS.out.2.1 HS.out.2.2 (HS.out.1.next HX0.out.2)).mono ?_
  rintro r w1 ⟨rfl, hb⟩
  have H1 : Hid (Bx w1 w.heap.size [.int .i64 S.ep, .slice ra S.rn rc, .slice ta S.tn tc, .slice oa S.on oc] ∧ Below w.heap.size w w1) := ⟨HX0.out.1.next hb, HX0.out.2.trans (hb.mono HX0.out.2.size)⟩
  clear hb HX0
  cases eg : goodB S
  · have HN : Hid (MapPost (roL S many) (roB S many) w (.returned (.tuple #[.slice none 0 0, .bool false])) w1) := ro_no (by rw [roB, eg]; rfl) H1.out.2
    go_wp2
    exact bodyPost_ret (v := .tuple #[.slice none 0 0, .bool false]) (by simp [results, Tryz.results15, go_sem]) rfl HN.out
  have HG : Hid (goodP S) := clB_iff.1 eg
  have b0 := H1.out.1.cell 0 rfl
  have b1 := H1.out.1.cell 1 rfl
  have b2 := H1.out.1.cell 2 rfl
  have b3 := H1.out.1.cell 3 rfl
  have bz := H1.out.1.2
  cases ei : inR many 0 (S.on : Int)
  · have HN : Hid (MapPost (roL S many) (roB S many) w (.returned (.tuple #[.slice none 0 0, .bool false])) w1) := ro_no (by rw [roB, ei, eg]; rfl) H1.out.2
    go_wp2_with (go_at_call 38; refine (l1In_any _ _ _ _).mono ?_; rintro e w' ⟨rfl, rfl⟩)
    exact bodyPost_ret (v := .tuple #[.slice none 0 0, .bool false]) (by simp [results, Tryz.results15, go_sem]) rfl HN.out
  have hb := inR_iff.1 ei
  obtain ⟨m, rfl⟩ : ∃ m : Nat, many = (m : Int) := ⟨many.toNat, by omega⟩
  have hmo : m ≤ S.on := by omega
  have ho20 : S.on ≤ 20 := by
    have h1 := HG.out.2.2.2.1
    have h2 := idsL_len S.T S.tn
    have h3 := HG.out.1.2.2
    omega
  have HRB : Hid (roB S (m : Int) = true) := by show _ = _; rw [roB, eg, ei]; rfl
  have HRL : Hid (roL S (m : Int) = rpL S m) := by show _ = _; rw [roL, if_pos HRB.out]; simp
  have hmc : (m : Int) ≤ (oc : Int) := by omega
  have HI : Hid (∀ W, Calls Tryz.prog 38 #[.int .i64 (m : Int), .int .i64 0, .int .i64 (S.on : Int)] W fun r w' => r = .returned (.bool true) ∧ w' = W) := fun W => by have := l1In_any (m : Int) 0 (S.on : Int) W; rw [ei] at this; exact this
  clear hb ei eg
  go_wp2_with (go_at_call 38; refine (HI.out _).mono ?_; rintro e w' ⟨rfl, rfl⟩)
  refine (l5Replay_at ra rc ta tc oa oc U S m _ HS.out.2.1 HS.out.2.2 HG.out hmo ho20 (HS.out.1.next H1.out.2)).mono ?_
  rintro r w2 ⟨v2, rfl, hown, hbt⟩
  obtain ⟨a4, cap4, rfl, _, hx⟩ := SRow.of (F := cellF (cV (rpL S m))) (c := 2) hown
  have hbw : Below w.heap.size w w2 := hbt _ _ H1.out.2 (by have := H1.out.2.size; omega) H1.out.2.size
  have HF : Hid (MapPost (roL S (m : Int)) (roB S (m : Int)) w (.returned (.tuple #[.slice a4 (rpL S m).length cap4, .bool true])) w2) := by
    rw [HRL.out, HRB.out]
    exact ⟨⟨a4, cap4, rfl, hx.wide (by have := H1.out.2.size; omega)⟩, hbw⟩
  clear hown hbt hx hbw b0 b1 b2 b3 bz
  go_wp2
  exact bodyPost_ret (v := .tuple #[.slice a4 (rpL S m).length cap4, .bool true]) (by simp [results, Tryz.results15, go_sem]) rfl HF.out
theorem specReplayOrder_any (A : StA) (S : StV) (many : Int) (w : World) (hl : StLen S) (hok : StOk S) (hs : StAt w A S) :
    Calls Tryz.prog 15 #[.agg #[.int .i64 S.ep, .slice A.ra S.rn A.rc, .slice A.ta S.tn A.tc, .slice A.oa S.on A.oc], .int .i64 many] w fun r w' => MapPost (roL S many) (roB S many) w r w' :=
  specReplayOrder_at A.ra A.rc A.ta A.tc A.oa A.oc A.U S many w hl hok hs

end Go.Proofs.YtenfaofhoheleaaGreat
