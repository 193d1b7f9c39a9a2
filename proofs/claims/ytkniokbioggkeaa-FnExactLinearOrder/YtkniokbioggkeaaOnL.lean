/- The contracts of (*oneCopy).left and (*oneCopy).waits. -/
import Derived.Test.YtkniokbioggkeaaOnU
namespace Go.Proofs.Ytkniokbioggkeaa
open Go.RowKit
set_option linter.unusedVariables false

/-- Which of seven numbers ord has, as cells. -/
def doneC (ord : List Nat) : List Value := (List.range 7).map fun k => Value.bool (ord.contains k)
theorem doneC_len (ord : List Nat) : (doneC ord).length = 7 := by simp [doneC]
theorem doneC_at (ord : List Nat) {k : Nat} (hk : k < 7) : (doneC ord)[k]? = some (.bool (ord.contains k)) := by simp [doneC, hk]
theorem doneC_set (ord : List Nat) (i : Nat) : (doneC ord).set i (.bool true) = doneC (ord ++ [i]) := by
  apply List.ext_getElem?
  intro k
  rw [List.getElem?_set]
  by_cases hk : k < 7
  · rw [doneC_at _ hk, doneC_at _ hk]
    by_cases e : i = k
    · subst e; simp [doneC_len, hk]
    · rw [if_neg e]
      have : k ≠ i := fun h => e h.symm
      simp [this]
  · have h1 : (doneC ord)[k]? = none := List.getElem?_eq_none (by rw [doneC_len]; omega)
    have h2 : (doneC (ord ++ [i]))[k]? = none := List.getElem?_eq_none (by rw [doneC_len]; omega)
    rw [h1, h2]
    split
    · rw [doneC_len, if_neg (by omega)]
    · rfl
theorem left_succ (k : Nat) (ord : List Nat) : leftL (k + 1) ord = if ord.contains k = true then leftL k ord else leftL k ord ++ [k] := by
  rw [leftL, List.range_succ, List.filter_append, ← leftL]
  by_cases h : ord.contains k = true
  · have : k ∈ ord := by simpa using h
    simp [this]
  · have : k ∉ ord := by simpa using h
    simp [this]
theorem left_le (k : Nat) (ord : List Nat) : (leftL k ord).length ≤ k := by
  have := List.length_filter_le (fun k => !ord.contains k) (List.range k)
  simpa [leftL] using this
theorem ordC_at {ord : List Nat} {k : Nat} (hk : k < ord.length) : (ordC ord)[k]? = some (.int .i64 ((ord[k] : Nat) : Int)) := by simp [ordC, hk]
theorem own_lo {w : World} {base lo : Nat} {e : TypeId} {size : Nat} {v : Value} {n : Nat} {xs : List Value} (h : w.ownsRow base e size v n xs) (hl : lo ≤ base) : w.ownsRow lo e size v n xs := by
  obtain ⟨h1, h2⟩ := h
  refine ⟨h1, ?_⟩
  rcases h2 with h2 | ⟨b, cap, cur, hv, hb, r⟩
  · exact Or.inl h2
  · exact Or.inr ⟨b, cap, cur, hv, by omega, r⟩
/-- A row that is owned, as a box. -/
theorem own_box {w : World} {base g m cap : Nat} {e : TypeId} {xs : List Value} (h : w.ownsRow base e 1 (.slice (some ⟨g, 0, none⟩) m cap) m xs) : Bx w g xs := by
  refine ⟨fun j hj => ⟨?_, World.ownsRow.frozenAt h j⟩, (h.lt g rfl).2⟩
  have hl := h.1
  rw [World.ownsRow.cellAt h j (by omega)]

set_option maxRecDepth 100000 in
set_option maxHeartbeats 8000000 in
theorem left_any (w0 w : World) (g : Nat) (a : Option Addr) (n cap : Nat) (V : Nat → CallV) (ord : List Nat) (KB : List (Nat × List Value)) (hC : OneC w0 g a n cap V) (hok : OrdOk n ord) (h : OneS w0 w g a n cap V ord KB) :
    Calls Try.prog 75 #[.pointer (some ⟨g, 0, none⟩)] w fun r w' => ∃ v, r = .returned v ∧ w'.ownsRow w.heap.size 3 1 v (leftL n ord).length (ordC (leftL n ord)) ∧ Below w.heap.size w w' := by
  obtain ⟨i0, hi0, hz0, hz1, hz2⟩ := info_parts info_int7
  obtain ⟨L, ov, lv, h1, h2, h3⟩ := h
  have h7 := hC.n7
  have hol := hok.len
  obtain ⟨oa, oc, rfl⟩ : ∃ oa oc, ov = .slice oa ord.length oc := by
    rcases Go.Joins.ownsRow_forms h1.2.1 with ⟨e, e'⟩ | ⟨gg, cc, e⟩
    · exact ⟨none, 0, by rw [e, e']⟩
    · exact ⟨_, _, e⟩
  have HO : Hid (w.ownsRow (g + 1) 3 1 (.slice oa ord.length oc) ord.length (ordC ord) ∧ OrdOk n ord) := ⟨h1.2.1, hok⟩
  have HD0 : Hid (Bx (w.alloc (.cells (doneC []).toArray 99)) w.heap.size (doneC []) ∧ Below w.heap.size w (w.alloc (.cells (doneC []).toArray 99))) := ⟨Bx.new w (doneC []) _, Go.Joins.below_alloc1 _ _⟩
  have HK : Hid (Bx w g [.slice a n cap, .slice oa ord.length oc, lv]) := h1.1
  have k1 := h1.1.cell 1 rfl
  have kz := h1.1.2
  clear h1 h2 h3 hC hok
  go_enter Try.func75, Try.ntmps75
  go_wp2
  go_loopw [13] (fun z wr => ∃ k : Nat, k ≤ ord.length ∧ z = .int .i64 k ∧ Bx wr w.heap.size (doneC (ord.take k)) ∧ Below w.heap.size w wr) (fun z _ => ord.length - (intOf z).toNat)
  case atStart => exact ⟨0, Nat.zero_le _, rfl, HD0.out.1, HD0.out.2⟩
  case round =>
    obtain ⟨k, hk, rfl, hbx, hBr⟩ := hrel
    clear HD0
    have HQ : Hid (Bx wr w.heap.size (doneC (ord.take k)) ∧ Below w.heap.size w wr) := ⟨hbx, hBr⟩
    clear hbx hBr
    by_cases hlt : k < ord.length
    · have hlt' : (k : Int) < (ord.length : Int) := by omega
      obtain ⟨og, oc', e⟩ := Go.Joins.ownsRow_form HO.out.1 (by omega)
      simp only [Value.slice.injEq, true_and] at e
      obtain ⟨rfl, rfl⟩ := e
      have hok := own_keep HO.out.1 HQ.out.2
      have d0 : wr.cell? ⟨og, k, none⟩ = some (.int .i64 ((ord[k] : Nat) : Int)) := by
        rw [World.ownsRow.cellAt hok k (by omega)]; exact ordC_at hlt
      have hin : ord[k] < 7 := by have := HO.out.2.2 ord[k] (List.getElem_mem hlt); omega
      have HT : Hid (ord.take (k + 1) = ord.take k ++ [ord[k]]) := List.take_succ_eq_append_getElem hlt
      obtain ⟨i, hi⟩ : ∃ i, i = ord[k] := ⟨_, rfl⟩
      rw [← hi] at d0 hin HT
      clear hi hok
      have hin' : (i : Int) < 7 := by omega
      have e0 := HQ.out.1.cell i (doneC_at _ hin)
      have e1 := HQ.out.1.frz i (by rw [doneC_len]; exact hin)
      have ez := HQ.out.1.2
      have H2 : Hid (Bx (wr.setCell ⟨w.heap.size, i, none⟩ (.bool true)) w.heap.size (doneC (ord.take (k + 1))) ∧ Below w.heap.size w (wr.setCell ⟨w.heap.size, i, none⟩ (.bool true))) := by
        rw [HT.out, ← doneC_set]
        exact ⟨HQ.out.1.set (by rw [doneC_len]; exact hin) _, HQ.out.2.setCell (p := ⟨w.heap.size, i, none⟩) (Nat.le_refl _) _⟩
      clear HQ HT
      go_wp2
      go_roundw
      case rel => exact ⟨k + 1, by omega, by go_num, H2.out.1, H2.out.2⟩
      case measure => simp [intOf]; omega
    · have hkm : k = ord.length := by omega
      have hlt' : ¬ (k : Int) < (ord.length : Int) := by omega
      have HQ := (show Hid (Bx wr w.heap.size (doneC ord) ∧ Below w.heap.size w wr) from ⟨by have := HQ.out.1; rw [hkm, List.take_length] at this; exact this, HQ.out.2⟩)
      have k0 := (HK.out.next HQ.out.2).cell 0 rfl
      have kz' := (HK.out.next HQ.out.2).2
      clear hkm k1
      obtain ⟨wb, hwb⟩ : ∃ y, y = wr := ⟨wr, rfl⟩
      subst hwb
      go_wp2
      clear k0
      go_loopw [25, 6] (fun z v wr => ∃ q : Nat, q ≤ n ∧ z = .int .i64 q ∧ wr.ownsRow wb.heap.size 3 1 v (leftL q ord).length (ordC (leftL q ord)) ∧ Bx wr w.heap.size (doneC ord) ∧ Below wb.heap.size wb wr) (fun z _ _ => n - (intOf z).toNat)
      case atStart => exact ⟨0, Nat.zero_le _, rfl, World.ownsRow_nil _ _ _ _, HQ.out.1, Below.refl _ _⟩
      case round =>
        obtain ⟨q, hq, rfl, hown, hbx, hBr⟩ := hrel
        have hll := left_le q ord
        have H1 : Hid (wr.ownsRow wb.heap.size 3 1 u6 (leftL q ord).length (ordC (leftL q ord)) ∧ Bx wr w.heap.size (doneC ord) ∧ Below wb.heap.size wb wr) := ⟨hown, hbx, hBr⟩
        clear hown hbx hBr
        have hwz := HQ.out.1.2
        by_cases hql : q < n
        · have hql' : (q : Int) < (n : Int) := by omega
          have hq7 : (q : Int) < 7 := by omega
          have e0 := H1.out.2.1.cell q (doneC_at ord (by omega))
          have ez := H1.out.2.1.2
          cases ec : ord.contains q
          · have HL : Hid (leftL (q + 1) ord = leftL q ord ++ [q]) := by show _ = _; rw [left_succ, if_neg (by rw [ec]; exact Bool.false_ne_true)]
            rw [ec] at e0
            obtain ⟨L0, hL0⟩ : ∃ L0, L0 = leftL q ord := ⟨_, rfl⟩
            rw [← hL0] at H1 HL hll
            clear hL0
            have hwr := H1.out.2.2.size
            have HNW : Hid (∀ j u, [Value.int .i64 (q : Int)][j]? = some u → (wr.alloc (.cells #[.int .i64 (q : Int)] 3)).cell? ((⟨wr.heap.size, 0, none⟩ : Addr).add j) = some u) := cells_new wr [.int .i64 (q : Int)] 3
            go_wp2_with (first
              | (at_builtin; refine wpList_append_own_at _ rfl (.tmp 32) (.tmp 34) 32 rfl wb.heap.size 3 i0 (.int .i64 0) 1 8 Try.underlying32 hi0 hz0 hz1 hz2 rfl (by decide) u6 L0.length (ordC L0) rfl (World.ownsRow.alloc H1.out.1 _) ⟨wr.heap.size, 0, none⟩ 1 1 [.int .i64 (q : Int)] rfl rfl HNW.out (by intro u hu; simp at hu; subst hu; rfl) (by unfold maxLen; omega) (by omega) (by simp <;> omega) ?_; intro v4 w4 hown hgrow hnil hwhere)
              | go_in)
            have HFF : Hid (w4.ownsRow wb.heap.size 3 1 v4 (leftL (q + 1) ord).length (ordC (leftL (q + 1) ord)) ∧ Bx w4 w.heap.size (doneC ord) ∧ Below wb.heap.size wb w4) := by
              rw [HL.out, ordC_snoc, List.length_append]
              exact ⟨hown, (H1.out.2.1.alloc _).grw hgrow (fun e => by have := (H1.out.1.lt _ e.symm).1; omega), (H1.out.2.2.alloc hwr _).grown hgrow (by simp; omega) (fun j hj => (H1.out.1.lt j hj).1)⟩
            clear hown hgrow hnil hwhere H1 HNW HL
            go_wp2
            go_roundw
            case rel => exact ⟨q + 1, by omega, by go_num, HFF.out.1, HFF.out.2.1, HFF.out.2.2⟩
            case measure => simp [intOf]; omega
          · have HL : Hid (leftL (q + 1) ord = leftL q ord) := by show _ = _; rw [left_succ, if_pos ec]
            rw [ec] at e0
            go_wp2
            go_roundw
            case rel => exact ⟨q + 1, by omega, by go_num, by rw [HL.out]; exact H1.out.1, H1.out.2.1, H1.out.2.2⟩
            case measure => simp [intOf]; omega
        · have hqn : q = n := by omega
          have hql' : ¬ (q : Int) < (n : Int) := by omega
          have HH : Hid (∃ v, Ending.returned u6 = .returned v ∧ wr.ownsRow w.heap.size 3 1 v (leftL n ord).length (ordC (leftL n ord)) ∧ Below w.heap.size w wr) := by
            have := H1.out.1
            rw [hqn] at this
            refine ⟨u6, rfl, own_lo this (by have := HQ.out.2.size; omega), HQ.out.2.trans (H1.out.2.2.mono HQ.out.2.size)⟩
          clear H1 hqn hll
          go_wp2
          go_ret
          exact HH.out
end Go.Proofs.Ytkniokbioggkeaa
