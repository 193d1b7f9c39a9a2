/- slices.Compact at pairs. -/
import Derived.Test.YtnapgnkhajkbkaaL4P
import Derived.Lib.SliceRun
namespace Go.Proofs.Ytnapgnkhajkbkaa
open Go.RowKit
set_option linter.unusedVariables false

theorem run_clear_many {P : Program} (w : World) (t e ty : TypeId) (z : Value) (ht : P.underlying t = some (.slice e)) (hv : ∀ w, (zeroValue e).run P w = .ok z w) (b o n c : Nat) (hn : 0 < n) (zs : List Value) (hzs : zs = (Builtin.zeroCells z.cells n).toList) (h1 : ∀ v ∈ zs, v.oneCell' = true)
    (hc : ∀ j, j < zs.length → (w.cell? ⟨b, o + j, none⟩).isSome = true) (hf : ∀ j, j < zs.length → w.frozen? ⟨b, o + j, none⟩ = false) :
    (Builtin.clear_ #[t] ty #[.slice (some ⟨b, o, none⟩) n c]).run P w = .ok (.tuple #[]) (w.setCells b o zs) := by
  have hst := run_storeCells_cells (P := P) b o zs 0 w (by simpa using hc) (by simpa using hf) h1
  simp only [Nat.add_zero] at hst
  obtain ⟨m, rfl⟩ : ∃ m, n = m + 1 := ⟨n - 1, by omega⟩
  rw [hzs] at hst ⊢
  simp [Builtin.clear_, run_underlying ht, hv, hst]
theorem setCells_trn {g : Nat} : ∀ (vs : List Value) (w : World) (o : Nat), Trn g (g + 1) w (w.setCells g o vs)
  | [], w, o => Trn.refl _ _ _
  | v :: r, w, o => ((Trn.refl g (g + 1) w).set (p := ⟨g, o, none⟩) (Nat.le_refl _) (by show g < g + 1; omega) v).trans (setCells_trn r _ _)
theorem setCells_frz {g : Nat} : ∀ (vs : List Value) (w : World) (o : Nat) (x : Addr), (w.setCells g o vs).frozen? x = w.frozen? x
  | [], w, o, x => rfl
  | v :: r, w, o, x => by rw [World.setCells, setCells_frz r]; simp
/-- The row holds pairs e. -/
def RowP (w : World) (g k : Nat) (e : Nat → Int × Int) : Prop := Elems w g 0 k 2 (prF (fun i => (e i).1) (fun i => (e i).2)) ∧ Room w g (k * 2) ∧ g < w.heap.size
theorem RowP.next {w w' : World} {g k : Nat} {e : Nat → Int × Int} (h : RowP w g k e) (hb : Below w.heap.size w w') : RowP w' g k e := ⟨h.1.below hb h.2.2, h.2.1.below hb h.2.2, Nat.lt_of_lt_of_le h.2.2 hb.size⟩
theorem RowP.cells {w : World} {g k i : Nat} {e : Nat → Int × Int} (h : RowP w g k e) (hi : i < k) : w.cell? ⟨g, i * 2, none⟩ = some (.int .i64 (e i).1) ∧ w.cell? ⟨g, i * 2 + 1, none⟩ = some (.int .i64 (e i).2) := by
  have := pr_cells h.1 hi
  simpa using this
theorem RowP.frz {w : World} {g k i : Nat} {e : Nat → Int × Int} (h : RowP w g k e) (hi : i < k) : w.frozen? ⟨g, i * 2, none⟩ = false ∧ w.frozen? ⟨g, i * 2 + 1, none⟩ = false := ⟨(h.2.1 (i * 2) (by omega)).2, (h.2.1 (i * 2 + 1) (by omega)).2⟩
theorem RowP.set {w : World} {g k i : Nat} {e : Nat → Int × Int} {x : Int × Int} (h : RowP w g k e) (hi : i < k) : RowP ((w.setCell ⟨g, i * 2, none⟩ (.int .i64 x.1)).setCell ⟨g, i * 2 + 1, none⟩ (.int .i64 x.2)) g k (fun j => if j = i then x else e j) := by
  have hR1 : Room (w.setCell ⟨g, i * 2, none⟩ (.int .i64 x.1)) g (k * 2) := h.2.1.set (by omega)
  have hR2 : Room ((w.setCell ⟨g, i * 2, none⟩ (.int .i64 x.1)).setCell ⟨g, i * 2 + 1, none⟩ (.int .i64 x.2)) g (k * 2) := hR1.set (by omega)
  refine ⟨fun j hj c hc => ?_, hR2, by simpa using h.2.2⟩
  have hr1 := h.2.1 (i * 2) (by omega)
  have hr2 := hR1 (i * 2 + 1) (by omega)
  by_cases ej : j = i
  · subst ej
    match c, hc with
    | 0, _ =>
      rw [show 0 + j * 2 + 0 = j * 2 by omega, World.cell?_setCell_other _ _ _ _ (addr_ne (by omega))]
      obtain ⟨⟨v, hv⟩, _⟩ := hr1
      rw [World.cell?_setCell_same _ _ _ hv]
      simp [prF]
    | 1, _ =>
      rw [show 0 + j * 2 + 1 = j * 2 + 1 by omega]
      obtain ⟨⟨v, hv⟩, _⟩ := hr2
      rw [World.cell?_setCell_same _ _ _ hv]
      simp [prF]
  · have hne : ∀ c', c' < 2 → i * 2 + c' ≠ 0 + j * 2 + c := fun c' h' => by omega
    rw [World.cell?_setCell_other _ _ _ _ (addr_ne (hne 1 (by omega))), World.cell?_setCell_other _ _ _ _ (addr_ne (show i * 2 ≠ 0 + j * 2 + c from hne 0 (by omega))), h.1 j hj c hc]
    simp [prF, ej]
/-- Each once, of neighbours. -/
def ddN (d : Nat → Int × Int) : Nat → List (Int × Int)
  | 0 => []
  | k + 1 => if 0 < k ∧ d k = d (k - 1) then ddN d k else ddN d k ++ [d k]
theorem ddN_skip {d : Nat → Int × Int} {k : Nat} (h0 : 0 < k) (h : d k = d (k - 1)) : ddN d (k + 1) = ddN d k := by rw [ddN, if_pos ⟨h0, h⟩]
theorem ddN_keep {d : Nat → Int × Int} {k : Nat} (h : d k ≠ d (k - 1) ∨ k = 0) : ddN d (k + 1) = ddN d k ++ [d k] := by
  rw [ddN, if_neg (fun q => by rcases h with h | h; · exact h q.2
                               · omega)]
theorem ddN_all {d : Nat → Int × Int} : ∀ {k : Nat}, (∀ j, 0 < j → j < k → d j ≠ d (j - 1)) → ddN d k = (List.range k).map d
  | 0, _ => rfl
  | k + 1, h => by
    rw [ddN_keep (by rcases Nat.eq_zero_or_pos k with e | e; · exact Or.inr e
                     · exact Or.inl (h k e (by omega))), ddN_all (fun j h0 hj => h j h0 (by omega)), List.range_succ, List.map_append]
    rfl

def CpPost (g k cap : Nat) (d : Nat → Int × Int) (w : World) (r : Ending) (w' : World) : Prop :=
  ∃ e : Nat → Int × Int, r = .returned (.slice (some ⟨g, 0, none⟩) (ddN d k).length cap) ∧ RowP w' g (ddN d k).length e ∧ (∀ j, j < (ddN d k).length → e j = (ddN d k).getD j (0, 0)) ∧ Trn g (g + 1) w w'
theorem RowP.less {w : World} {g k m : Nat} {e : Nat → Int × Int} (h : RowP w g k e) (hm : m ≤ k) : RowP w g m e := ⟨h.1.le hm, fun q hq => h.2.1 q (by omega), h.2.2⟩
theorem cp_all {g k cap : Nat} {d : Nat → Int × Int} {w w' : World} (h : RowP w' g k d) (ha : ∀ j, 0 < j → j < k → d j ≠ d (j - 1)) (ht : Trn g (g + 1) w w') : CpPost g k cap d w (.returned (.slice (some ⟨g, 0, none⟩) k cap)) w' := by
  have e := ddN_all ha
  have hl : (ddN d k).length = k := by rw [e]; simp
  refine ⟨d, by rw [hl], by rw [hl]; exact h, fun j hj => ?_, ht⟩
  rw [hl] at hj
  rw [e, List.getD_eq_getElem?_getD]
  simp [hj]
/-- Between the rounds of the second loop. -/
def CpI (w W : World) (g k p m i : Nat) (d : Nat → Int × Int) : Prop :=
  ∃ e : Nat → Int × Int, RowP W g k e ∧ (ddN d (p + m)).length = i ∧ i < p + m ∧ (∀ j, j < i → e j = (ddN d (p + m)).getD j (0, 0)) ∧ (∀ j, i ≤ j → e j = d j) ∧ Trn g (g + 1) w W
theorem CpI.done {w W : World} {g k p m i cap : Nat} {d : Nat → Int × Int} (h : CpI w W g k p m i d) (hk : p + m = k) (zs : List Value) : CpPost g k cap d w (.returned (.slice (some ⟨g, 0, none⟩) i cap)) (W.setCells g (i * 2) zs) := by
  obtain ⟨e, h1, h2, h3, h4, h5, h6⟩ := h
  rw [hk] at h2 h4
  refine ⟨e, by rw [h2], ?_, fun j hj => h4 j (by omega), h6.trans (setCells_trn _ _ _)⟩
  rw [h2]
  have hl := h1.less (show i ≤ k by omega)
  refine ⟨fun j hj c hc => ?_, fun q hq => ?_, Nat.lt_of_lt_of_le hl.2.2 (setCells_trn zs W (i * 2)).2.2.2.1⟩
  · rw [World.cell?_setCells_out g zs (i * 2) W ⟨g, 0 + j * 2 + c, none⟩ (fun _ _ => Or.inl (by show 0 + j * 2 + c < i * 2; omega))]
    exact hl.1 j hj c hc
  · rw [World.cell?_setCells_out g zs (i * 2) W ⟨g, q, none⟩ (fun _ _ => Or.inl hq), setCells_frz]
    exact hl.2.1 q hq
set_option maxRecDepth 100000 in
set_option maxHeartbeats 8000000 in
theorem compact_any (g k cap : Nat) (d : Nat → Int × Int) (w : World) (hk : k ≤ 1048576) (hcap : k ≤ cap) (hcm : cap ≤ 9223372036854775807) (h : RowP w g k d) :
    Calls Try.prog 48 #[.slice (some ⟨g, 0, none⟩) k cap] w (CpPost g k cap d w) := by
  have HR : Hid (RowP w g k d) := h
  clear h
  by_cases h2 : k < 2
  · have h2' : (k : Int) < 2 := by omega
    go_enter Try.func48, Try.ntmps48
    go_wp2
    go_ret
    exact cp_all HR.out (fun j h0 hj => by omega) (Trn.refl _ _ _)
  have h2' : ¬ (k : Int) < 2 := by omega
  go_enter Try.func48, Try.ntmps48
  go_wp2
  go_loopw [3] (fun x wr => ∃ q : Nat, q + 1 ≤ k ∧ x = .int .i64 ((q + 1 : Nat) : Int) ∧ RowP wr g k d ∧ Trn g (g + 1) w wr ∧ (∀ j, 0 < j → j < q + 1 → d j ≠ d (j - 1))) (fun x _ => k - (intOf x).toNat)
  case atStart => exact ⟨0, by omega, rfl, HR.out, Trn.refl _ _ _, fun j h0 hj => by omega⟩
  case round =>
    obtain ⟨q, hq, rfl, hR, hT, hall⟩ := hrel
    have HH : Hid (RowP wr g k d ∧ Trn g (g + 1) w wr ∧ (∀ j, 0 < j → j < q + 1 → d j ≠ d (j - 1))) := ⟨hR, hT, hall⟩
    clear hR hT hall HR
    obtain ⟨i, hi⟩ : ∃ i, i = q + 1 := ⟨_, rfl⟩
    have HI : Hid (i = q + 1) := hi
    rw [← hi] at hq ⊢
    by_cases hlt : i < k
    · have hlt' : (i : Int) < (k : Int) := by omega
      have hqk : (q : Int) < (k : Int) := by omega
      have hwq : IntKind.i64.wrap ((i : Int) - 1) = (q : Int) := by rw [IntKind.wrap_i64]; omega
      have hb : Below wr.heap.size wr wr.drew := (Below.refl _ _).drew
      have HD : Hid (RowP wr.drew g k d ∧ Trn g (g + 1) w wr.drew) := ⟨HH.out.1.next hb, HH.out.2.1.next hb⟩
      obtain ⟨X, hX⟩ : ∃ X, X = d i := ⟨_, rfl⟩
      obtain ⟨Y, hY⟩ : ∃ Y, Y = d q := ⟨_, rfl⟩
      have HXY : Hid (X = d i ∧ Y = d q) := ⟨hX, hY⟩
      have HC : Hid (wr.drew.cell? ⟨g, i * 2, none⟩ = some (.int .i64 X.1) ∧ wr.drew.cell? ⟨g, i * 2 + 1, none⟩ = some (.int .i64 X.2) ∧ wr.drew.cell? ⟨g, q * 2, none⟩ = some (.int .i64 Y.1) ∧ wr.drew.cell? ⟨g, q * 2 + 1, none⟩ = some (.int .i64 Y.2)) := by
        have c1 := HD.out.1.cells hlt
        have c2 := HD.out.1.cells (show q < k by omega)
        rw [hX, hY]; exact ⟨c1.1, c1.2, c2.1, c2.2⟩
      clear hX hY hi hb
      obtain ⟨x1, x2⟩ := X
      obtain ⟨y1, y2⟩ := Y
      replace HC : Hid (wr.drew.cell? ⟨g, i * 2, none⟩ = some (.int .i64 x1) ∧ wr.drew.cell? ⟨g, i * 2 + 1, none⟩ = some (.int .i64 x2) ∧ wr.drew.cell? ⟨g, q * 2, none⟩ = some (.int .i64 y1) ∧ wr.drew.cell? ⟨g, q * 2 + 1, none⟩ = some (.int .i64 y2)) := HC
      have hr := fun W => run_eqPair x1 x2 y1 y2 W
      obtain ⟨z, hz⟩ : ∃ z, pairE x1 x2 y1 y2 = z := ⟨_, rfl⟩
      have HZ : Hid (pairE x1 x2 y1 y2 = z) := hz
      rw [hz] at hr
      clear hz
      go_upto_region 6 with fail
      refine wp_region_noPanic ?_
      refine wp_region_held_drew (S := fun W => W.cell? ⟨g, i * 2, none⟩ = some (.int .i64 x1) ∧ W.cell? ⟨g, i * 2 + 1, none⟩ = some (.int .i64 x2) ∧ W.cell? ⟨g, q * 2, none⟩ = some (.int .i64 y1) ∧ W.cell? ⟨g, q * 2 + 1, none⟩ = some (.int .i64 y2)) (by kernel_rfl) HC.out (fun hHeld => ?_)
      refine take_v (v := ?_) 0 ⟨some 16, Op.move (Operand.tmp 0), _, _, _, none⟩ rfl (fun _ _ _ h => h) ?_ hHeld ?_
      rotate_left
      · (intro W _; go_simp <;> (try with_reducible rfl))
      refine take_v (v := ?_) 1 ⟨some 17, Op.move (Operand.tmp 3), _, _, _, none⟩ rfl (fun _ _ _ h => h) ?_ hHeld ?_
      rotate_left
      · (intro W _; go_simp <;> (try with_reducible rfl))
      refine take_v (v := ?_) 2 ⟨some 18, Op.indexAddr 30 (Operand.tmp 16) (Operand.tmp 17), _, _, _, none⟩ rfl (fun _ _ _ h => h) ?_ hHeld ?_
      rotate_left
      · (intro W _; go_simp <;> (try with_reducible rfl))
      refine take_v (v := ?_) 3 ⟨some 19, Op.load 35 (Operand.tmp 18), _, _, _, none⟩ rfl (fun _ _ _ h => h) ?_ hHeld ?_
      rotate_left
      · (intro W hSW; (have s0 := hSW.1; have s1 := hSW.2.1; have s2 := hSW.2.2.1; have s3 := hSW.2.2.2); go_simp <;> (try with_reducible rfl))
      refine take_v (v := ?_) 4 ⟨some 20, Op.move (Operand.tmp 0), _, _, _, none⟩ rfl (fun _ _ _ h => h) ?_ hHeld ?_
      rotate_left
      · (intro W _; go_simp <;> (try with_reducible rfl))
      refine take_v (v := ?_) 5 ⟨some 21, Op.move (Operand.tmp 3), _, _, _, none⟩ rfl (fun _ _ _ h => h) ?_ hHeld ?_
      rotate_left
      · (intro W _; go_simp <;> (try with_reducible rfl))
      refine take_v (v := ?_) 6 ⟨some 22, Op.binOp BinOp.sub 3 (Operand.tmp 21) (Operand.const (Value.int IntKind.i64 1)) 3, _, _, _, none⟩ rfl (fun _ _ _ h => h) ?_ hHeld ?_
      rotate_left
      · (intro W _; go_simp <;> (try with_reducible rfl))
      refine take_v (v := ?_) 7 ⟨some 23, Op.indexAddr 30 (Operand.tmp 20) (Operand.tmp 22), _, _, _, none⟩ rfl (fun _ _ _ h => h) ?_ hHeld ?_
      rotate_left
      · (intro W _; go_simp <;> (try with_reducible rfl))
      refine take_v (v := ?_) 8 ⟨some 24, Op.load 35 (Operand.tmp 23), _, _, _, none⟩ rfl (fun _ _ _ h => h) ?_ hHeld ?_
      rotate_left
      · (intro W hSW; (have s0 := hSW.1; have s1 := hSW.2.1; have s2 := hSW.2.2.1; have s3 := hSW.2.2.2); go_simp <;> (try with_reducible rfl))
      refine take_v (v := ?_) 9 ⟨some 25, Op.binOp BinOp.eql 35 (Operand.tmp 19) (Operand.tmp 24) 35, _, _, _, none⟩ rfl (fun _ _ _ h => h) ?_ hHeld ?_
      rotate_left
      · (intro W _; go_simp <;> (try with_reducible rfl))
      refine wpAnyH_done (by kernel_rfl) ?_ _
      refine NoPanic.normal ?_
      clear hHeld hr hwq HC
      cases z
      · have HNE : Hid (d i ≠ d q) := by
          show d i ≠ d q
          rw [← HXY.out.1, ← HXY.out.2]
          intro e
          simp only [Prod.mk.injEq] at e
          have := HZ.out
          rw [e.1, e.2, pairE_yes] at this
          cases this
        go_wp2
        go_roundw
        case rel => exact ⟨q + 1, by have := HI.out; omega, by rw [← HI.out]; go_num, HD.out.1, HD.out.2, fun j h0 hj => by
          by_cases e : j < q + 1
          · exact HH.out.2.2 j h0 e
          · have e2 : j = i := by have := HI.out; omega
            have e3 : i - 1 = q := by have := HI.out; omega
            rw [e2, e3]; exact HNE.out⟩
        case measure => simp [intOf]; omega
      · have HEQ : Hid (d i = d (i - 1)) := by
          show d i = d (i - 1)
          have h := HZ.out
          simp only [pairE, Bool.and_eq_true, beq_iff_eq] at h
          rw [show i - 1 = q by have := HI.out; omega, ← HXY.out.1, ← HXY.out.2, h.1, h.2]
        have HCI : Hid (CpI w wr.drew g k i 1 i d) := by
          have hi0 : 0 < i := by have := HI.out; omega
          have e1 : ddN d (i + 1) = ddN d i := ddN_skip hi0 HEQ.out
          have e2 : ddN d i = (List.range i).map d := ddN_all (fun j h0 hj => HH.out.2.2 j h0 (by have := HI.out; omega))
          refine ⟨d, HD.out.1, by rw [e1, e2]; simp, by omega, fun j hj => ?_, fun j hj => rfl, HD.out.2⟩
          rw [e1, e2, List.getD_eq_getElem?_getD]
          simp [hj]
        have hic : (i : Int) ≤ (cap : Int) := by omega
        have hik : (i : Int) ≤ (k : Int) := by omega
        have hne : ¬ cap = i := by omega
        obtain ⟨wd, hwd⟩ : ∃ x, x = wr.drew := ⟨_, rfl⟩
        rw [← hwd] at HCI ⊢
        clear HH HD HXY HZ hwd
        go_wp2
        obtain ⟨N, hN⟩ : ∃ N, N = k - i := ⟨_, rfl⟩
        rw [← hN]
        have hNk : i + N = k := by omega
        clear hN
        go_loopw [3, 5] (fun x y wr => ∃ t r : Nat, x = .int .i64 t ∧ y = .int .i64 ((r + 1 : Nat) : Int) ∧ r + 1 ≤ N ∧ CpI w wr g k i (r + 1) t d) (fun _ y _ => N - (intOf y).toNat)
        case atStart => exact ⟨i, 0, rfl, rfl, by omega, HCI.out⟩
        case round =>
          obtain ⟨t, r, rfl, rfl, hr1, hI⟩ := hrel
          have HCI : Hid (CpI w wr g k i (r + 1) t d) := hI
          clear hI
          obtain ⟨m, hm⟩ : ∃ m, m = r + 1 := ⟨_, rfl⟩
          have HM : Hid (m = r + 1) := hm
          rw [← hm] at HCI hr1 ⊢
          have htm : t < i + m := by obtain ⟨e, h1, h2, h3, h4⟩ := HCI.out; exact h3
          by_cases hlt2 : m < N
          · have hlt2' : (m : Int) < (N : Int) := by omega
            have hrN : (r : Int) < (N : Int) := by omega
            have hwr : IntKind.i64.wrap ((m : Int) - 1) = (r : Int) := by rw [IntKind.wrap_i64]; omega
            have htk : (t : Int) < (k : Int) := by omega
            have hb : Below wr.heap.size wr wr.drew := (Below.refl _ _).drew
            obtain ⟨e, h1, h2, h3, h4, h5, h6⟩ := HCI.out
            obtain ⟨X, hX⟩ : ∃ X, X = d (i + m) := ⟨_, rfl⟩
            obtain ⟨Y, hY⟩ : ∃ Y, Y = d (i + r) := ⟨_, rfl⟩
            have HXY : Hid (X = d (i + m) ∧ Y = d (i + r)) := ⟨hX, hY⟩
            have HE : Hid (RowP wr.drew g k e ∧ (ddN d (i + m)).length = t ∧ (∀ j, j < t → e j = (ddN d (i + m)).getD j (0, 0)) ∧ (∀ j, t ≤ j → e j = d j) ∧ Trn g (g + 1) w wr.drew) := ⟨h1.next hb, h2, h4, h5, h6.next hb⟩
            have HC : Hid (wr.drew.cell? ⟨g, i * 2 + m * 2, none⟩ = some (.int .i64 X.1) ∧ wr.drew.cell? ⟨g, i * 2 + m * 2 + 1, none⟩ = some (.int .i64 X.2) ∧ wr.drew.cell? ⟨g, i * 2 + r * 2, none⟩ = some (.int .i64 Y.1) ∧ wr.drew.cell? ⟨g, i * 2 + r * 2 + 1, none⟩ = some (.int .i64 Y.2)) := by
              have c1 := HE.out.1.cells (show i + m < k by omega)
              have c2 := HE.out.1.cells (show i + r < k by omega)
              rw [h5 (i + m) (by omega), ← hX, show (i + m) * 2 = i * 2 + m * 2 by omega] at c1
              rw [h5 (i + r) (by omega), ← hY, show (i + r) * 2 = i * 2 + r * 2 by omega] at c2
              exact ⟨c1.1, c1.2, c2.1, c2.2⟩
            clear hX hY hm hb h1 h2 h3 h4 h5 h6 HCI
            obtain ⟨x1, x2⟩ := X
            obtain ⟨y1, y2⟩ := Y
            replace HC : Hid (wr.drew.cell? ⟨g, i * 2 + m * 2, none⟩ = some (.int .i64 x1) ∧ wr.drew.cell? ⟨g, i * 2 + m * 2 + 1, none⟩ = some (.int .i64 x2) ∧ wr.drew.cell? ⟨g, i * 2 + r * 2, none⟩ = some (.int .i64 y1) ∧ wr.drew.cell? ⟨g, i * 2 + r * 2 + 1, none⟩ = some (.int .i64 y2)) := HC
            have hr := fun W => run_nePair x1 x2 y1 y2 W
            obtain ⟨z, hz⟩ : ∃ z, pairE x1 x2 y1 y2 = z := ⟨_, rfl⟩
            have HZ : Hid (pairE x1 x2 y1 y2 = z) := hz
            rw [hz] at hr
            clear hz
            go_upto_region 11 with fail
            refine wp_region_noPanic ?_
            refine wp_region_held_drew (S := fun W => W.cell? ⟨g, i * 2 + m * 2, none⟩ = some (.int .i64 x1) ∧ W.cell? ⟨g, i * 2 + m * 2 + 1, none⟩ = some (.int .i64 x2) ∧ W.cell? ⟨g, i * 2 + r * 2, none⟩ = some (.int .i64 y1) ∧ W.cell? ⟨g, i * 2 + r * 2 + 1, none⟩ = some (.int .i64 y2)) (by kernel_rfl) HC.out (fun hHeld => ?_)
            refine take_v (v := ?_) 0 ⟨some 35, Op.move (Operand.tmp 4), _, _, _, none⟩ rfl (fun _ _ _ h => h) ?_ hHeld ?_
            rotate_left
            · (intro W _; go_simp <;> (try with_reducible rfl))
            refine take_v (v := ?_) 1 ⟨some 36, Op.move (Operand.tmp 5), _, _, _, none⟩ rfl (fun _ _ _ h => h) ?_ hHeld ?_
            rotate_left
            · (intro W _; go_simp <;> (try with_reducible rfl))
            refine take_v (v := ?_) 2 ⟨some 37, Op.indexAddr 30 (Operand.tmp 35) (Operand.tmp 36), _, _, _, none⟩ rfl (fun _ _ _ h => h) ?_ hHeld ?_
            rotate_left
            · (intro W _; go_simp <;> (try with_reducible rfl))
            refine take_v (v := ?_) 3 ⟨some 38, Op.load 35 (Operand.tmp 37), _, _, _, none⟩ rfl (fun _ _ _ h => h) ?_ hHeld ?_
            rotate_left
            · (intro W hSW; (have s0 := hSW.1; have s1 := hSW.2.1; have s2 := hSW.2.2.1; have s3 := hSW.2.2.2); go_simp <;> (try with_reducible rfl))
            refine take_v (v := ?_) 4 ⟨some 39, Op.move (Operand.tmp 4), _, _, _, none⟩ rfl (fun _ _ _ h => h) ?_ hHeld ?_
            rotate_left
            · (intro W _; go_simp <;> (try with_reducible rfl))
            refine take_v (v := ?_) 5 ⟨some 40, Op.move (Operand.tmp 5), _, _, _, none⟩ rfl (fun _ _ _ h => h) ?_ hHeld ?_
            rotate_left
            · (intro W _; go_simp <;> (try with_reducible rfl))
            refine take_v (v := ?_) 6 ⟨some 41, Op.binOp BinOp.sub 3 (Operand.tmp 40) (Operand.const (Value.int IntKind.i64 1)) 3, _, _, _, none⟩ rfl (fun _ _ _ h => h) ?_ hHeld ?_
            rotate_left
            · (intro W _; go_simp <;> (try with_reducible rfl))
            refine take_v (v := ?_) 7 ⟨some 42, Op.indexAddr 30 (Operand.tmp 39) (Operand.tmp 41), _, _, _, none⟩ rfl (fun _ _ _ h => h) ?_ hHeld ?_
            rotate_left
            · (intro W _; go_simp <;> (try with_reducible rfl))
            refine take_v (v := ?_) 8 ⟨some 43, Op.load 35 (Operand.tmp 42), _, _, _, none⟩ rfl (fun _ _ _ h => h) ?_ hHeld ?_
            rotate_left
            · (intro W hSW; (have s0 := hSW.1; have s1 := hSW.2.1; have s2 := hSW.2.2.1; have s3 := hSW.2.2.2); go_simp <;> (try with_reducible rfl))
            refine take_v (v := ?_) 9 ⟨some 44, Op.binOp BinOp.neq 35 (Operand.tmp 38) (Operand.tmp 43) 35, _, _, _, none⟩ rfl (fun _ _ _ h => h) ?_ hHeld ?_
            rotate_left
            · (intro W _; go_simp <;> (try with_reducible rfl))
            refine wpAnyH_done (by kernel_rfl) ?_ _
            refine NoPanic.normal ?_
            clear hHeld hr hwr
            obtain ⟨wd2, hwd2⟩ : ∃ x, x = wr.drew := ⟨_, rfl⟩
            rw [← hwd2] at HE HC ⊢
            clear hwd2
            cases z
            · have HKP : Hid (ddN d (i + m + 1) = ddN d (i + m) ++ [d (i + m)]) := ddN_keep (Or.inl (by
                rw [show i + m - 1 = i + r by have := HM.out; omega, ← HXY.out.1, ← HXY.out.2]
                intro e
                simp only [Prod.mk.injEq] at e
                have := HZ.out
                rw [e.1, e.2, pairE_yes] at this
                cases this))
              have c0 := HC.out.1
              have c1 := HC.out.2.1
              have d0 := (HE.out.1.cells (show t < k by omega)).1
              have d1 := (HE.out.1.cells (show t < k by omega)).2
              have f0 := (HE.out.1.frz (show t < k by omega)).1
              have f1 := (HE.out.1.frz (show t < k by omega)).2
              have gz := HE.out.1.2.2
              generalize (e t).1 = o1 at d0
              generalize (e t).2 = o2 at d1
              have HF : Hid (CpI w ((wd2.setCell ⟨g, t * 2, none⟩ (.int .i64 x1)).setCell ⟨g, t * 2 + 1, none⟩ (.int .i64 x2)) g k i (m + 1) (t + 1) d) := by
                have hs := HE.out.1.set (x := (x1, x2)) (show t < k by omega)
                refine ⟨_, hs, ?_, by omega, fun j hj => ?_, fun j hj => ?_, ?_⟩
                · rw [show i + (m + 1) = i + m + 1 by omega, HKP.out, List.length_append, HE.out.2.1]; rfl
                · rw [show i + (m + 1) = i + m + 1 by omega, HKP.out]
                  by_cases ej : j = t
                  · simp only [if_pos ej]
                    rw [ej, List.getD_eq_getElem?_getD, List.getElem?_append_right (by rw [HE.out.2.1]; exact Nat.le_refl _), HE.out.2.1]
                    simp [HXY.out.1]
                  · simp only [if_neg ej]
                    rw [HE.out.2.2.1 j (by omega), List.getD_eq_getElem?_getD, List.getD_eq_getElem?_getD, List.getElem?_append_left (by rw [HE.out.2.1]; omega)]
                · simp only [if_neg (show ¬ j = t by omega)]
                  exact HE.out.2.2.2.1 j (by omega)
                · exact (HE.out.2.2.2.2.set (p := ⟨g, t * 2, none⟩) (Nat.le_refl _) (by show g < g + 1; omega) _).set (p := ⟨g, t * 2 + 1, none⟩) (Nat.le_refl _) (by show g < g + 1; omega) _
              clear HE HC HXY HZ HKP
              go_wp2
              go_roundw
              case rel => exact ⟨t + 1, m, by go_num, by go_num, by omega, HF.out⟩
              case measure => simp [intOf]; omega
            · have HF : Hid (CpI w wd2 g k i (m + 1) t d) := by
                have e1 : ddN d (i + m + 1) = ddN d (i + m) := ddN_skip (by omega) (by
                  have h := HZ.out
                  simp only [pairE, Bool.and_eq_true, beq_iff_eq] at h
                  rw [show i + m - 1 = i + r by have := HM.out; omega, ← HXY.out.1, ← HXY.out.2, h.1, h.2])
                refine ⟨e, HE.out.1, ?_, by omega, fun j hj => ?_, HE.out.2.2.2.1, HE.out.2.2.2.2⟩
                · rw [show i + (m + 1) = i + m + 1 by omega, e1]; exact HE.out.2.1
                · rw [show i + (m + 1) = i + m + 1 by omega, e1]; exact HE.out.2.2.1 j hj
              clear HE HC HXY HZ
              go_wp2
              go_roundw
              case rel => exact ⟨t, m, rfl, by go_num, by omega, HF.out⟩
              case measure => simp [intOf]; omega
          · have hlt2' : ¬ (m : Int) < (N : Int) := by omega
            obtain ⟨zs, hzs⟩ : ∃ zs, zs = (Builtin.zeroCells (Value.agg #[.int .i64 0, .int .i64 0]).cells (k - t)).toList := ⟨_, rfl⟩
            have hzl : zs.length = (k - t) * 2 := by rw [hzs]; simp [size_zeroCells, Value.cells]
            have hcl : ∀ ty, (Builtin.clear_ #[30] ty #[.slice (some ⟨g, t * 2, none⟩) (k - t) (cap - t)]).run Try.prog wr = .ok (.tuple #[]) (wr.setCells g (t * 2) zs) := by
              intro ty
              obtain ⟨e, h1, _⟩ := HCI.out
              refine run_clear_many wr _ 35 ty (.agg #[.int .i64 0, .int .i64 0]) Try.underlying30 (fun w => by kernel_rfl) g (t * 2) (k - t) (cap - t) (by omega) zs hzs ?_ (fun j hj => ?_) (fun j hj => ?_)
              · intro v hv
                rw [hzs] at hv
                simp only [Builtin.zeroCells, Array.toList_map, List.mem_map] at hv
                obtain ⟨y, _, rfl⟩ := hv
                have : y % (Value.agg #[.int .i64 0, .int .i64 0]).cells.size = 0 ∨ y % (Value.agg #[.int .i64 0, .int .i64 0]).cells.size = 1 := by
                  show y % 2 = 0 ∨ y % 2 = 1
                  omega
                rcases this with q | q <;> rw [q] <;> rfl
              · obtain ⟨⟨v, hv⟩, _⟩ := h1.2.1 (t * 2 + j) (by omega)
                rw [hv]; rfl
              · exact (h1.2.1 (t * 2 + j) (by omega)).2
            have htc : (t : Int) ≤ (cap : Int) := by omega
            have htk : (t : Int) ≤ (k : Int) := by omega
            have htn : ¬ cap = t := by omega
            have HP : Hid (CpPost g k cap d w (.returned (.slice (some ⟨g, 0, none⟩) t cap)) (wr.setCells g (t * 2) zs)) := HCI.out.done (by omega) zs
            clear HCI hzs hzl hm
            go_wp2
            go_ret
            exact HP.out
    · have hlt' : ¬ (i : Int) < (k : Int) := by omega
      have hik : i = k := by omega
      have HP : Hid (CpPost g k cap d w (.returned (.slice (some ⟨g, 0, none⟩) k cap)) wr) := cp_all HH.out.1 (fun j h0 hj => HH.out.2.2 j h0 (by omega)) HH.out.2.1
      clear HH hik hi
      go_wp2
      go_ret
      exact HP.out
end Go.Proofs.Ytnapgnkhajkbkaa
