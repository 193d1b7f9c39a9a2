/- The contract of the specification's SerialOrder. -/
import Derived.Test.YthbpjmnlgfahmaaSdG
import Derived.Test.YthbpjmnlgfahmaaHasI
namespace Go.Proofs.Ythbpjmnlgfahmaa
open Go.RowKit
set_option linter.unusedVariables false

def lenV : Value → Nat
  | .slice _ n _ => n
  | _ => 0
/-- Whether t may be next, as far as the first m edges tell. -/
def rdM (P Q : Nat → Int) (out : List Nat) (t : Int) : Nat → Bool
  | 0 => !hasN (xF out) t out.length
  | m + 1 => rdM P Q out t m && (Q m != t || hasN (xF out) (P m) out.length)
theorem hasX {out : List Nat} {t : Nat} : hasN (xF out) (t : Int) out.length = out.contains t := by
  rw [Bool.eq_iff_iff, hasN_iff]
  simp only [List.contains_eq_mem, decide_eq_true_eq]
  constructor
  · rintro ⟨j, hj, e⟩
    have : out[j] = t := by
      have e' : (((out.getD j 0 : Nat)) : Int) = (t : Int) := e
      simp [hj] at e'
      omega
    rw [← this]; exact List.getElem_mem _
  · intro h
    obtain ⟨j, hj, e⟩ := List.mem_iff_getElem.1 h
    exact ⟨j, hj, by simp [xF, hj, e]⟩
theorem rdM_iff {P Q : Nat → Int} {out : List Nat} {t : Int} : ∀ {m : Nat}, rdM P Q out t m = true ↔ hasN (xF out) t out.length = false ∧ ∀ q, q < m → Q q = t → hasN (xF out) (P q) out.length = true
  | 0 => by simp [rdM]
  | m + 1 => by
    simp only [rdM, Bool.and_eq_true, rdM_iff (m := m), Bool.or_eq_true, bne_iff_ne, ne_eq]
    constructor
    · rintro ⟨⟨h1, h2⟩, h3⟩
      refine ⟨h1, fun q hq e => ?_⟩
      rcases Nat.lt_succ_iff_lt_or_eq.1 hq with g | g
      · exact h2 q g e
      · subst g; exact h3.resolve_left (fun h => h e)
    · rintro ⟨h1, h2⟩
      refine ⟨⟨h1, fun q hq e => h2 q (by omega) e⟩, ?_⟩
      by_cases e : Q m = t
      · exact Or.inr (h2 m (by omega) e)
      · exact Or.inl e
theorem tab_mem {e : Nat → Nat → Bool} {X Y : List Nat} {x y : Int} : (x, y) ∈ tabL e X Y ↔ ∃ f g : Nat, f ∈ X ∧ g ∈ Y ∧ e f g = true ∧ x = (f : Int) ∧ y = (g : Int) := by
  simp only [tabL, rowL, List.mem_flatMap, List.mem_filterMap]
  constructor
  · rintro ⟨f, hf, g, hg, h⟩
    split at h
    · rename_i he
      simp only [Option.some.injEq, Prod.mk.injEq] at h
      exact ⟨f, g, hf, hg, he, h.1.symm, h.2.symm⟩
    · cases h
  · rintro ⟨f, g, hf, hg, he, rfl, rfl⟩
    exact ⟨f, hf, g, hg, by rw [if_pos he]⟩
theorem pPQ_mem {L : List (Int × Int)} {q : Nat} (h : q < L.length) : (pP L q, pQ L q) ∈ L := by
  have : L[q]? = some L[q] := by simp [h]
  have e : (pP L q, pQ L q) = L[q] := by simp [pP, pQ, h]
  rw [e]; exact List.getElem_mem _
theorem mem_pPQ {L : List (Int × Int)} {x y : Int} (h : (x, y) ∈ L) : ∃ q, q < L.length ∧ pP L q = x ∧ pQ L q = y := by
  obtain ⟨q, hq, e⟩ := List.mem_iff_getElem.1 h
  exact ⟨q, hq, by simp [pP, hq, e], by simp [pQ, hq, e]⟩
theorem rdM_all {e : Nat → Nat → Bool} {X out : List Nat} {t : Nat} {L : List (Int × Int)} (hL : L = tabL e X X) (ht : t ∈ X) : rdM (pP L) (pQ L) out t L.length = rdyB e X out t := by
  rw [Bool.eq_iff_iff, rdM_iff, hasX]
  simp only [rdyB, Bool.and_eq_true, Bool.not_eq_true', List.all_eq_true, Bool.or_eq_true]
  constructor
  · rintro ⟨h1, h2⟩
    refine ⟨h1, fun f hf => ?_⟩
    cases he : e f t
    · exact Or.inr rfl
    · left
      obtain ⟨q, hq, e1, e2⟩ := mem_pPQ (L := L) (x := (f : Int)) (y := (t : Int)) (by rw [hL]; exact tab_mem.2 ⟨f, t, hf, ht, he, rfl, rfl⟩)
      have := h2 q hq e2
      rw [e1, hasX] at this; exact this
  · rintro ⟨h1, h2⟩
    refine ⟨h1, fun q hq e2 => ?_⟩
    have := pPQ_mem hq
    rw [hL] at this
    obtain ⟨f, g, hf, hg, he, ex, ey⟩ := tab_mem.1 this
    rw [← hL] at ex ey
    have : g = t := by rw [ey] at e2; omega
    subst this
    rw [ex, hasX]
    rcases h2 f hf with h | h
    · exact h
    · rw [he] at h; cases h
theorem l1Has_bool {n : Nat} {X : Nat → Int} {t : Int} {q : Bool} (a : Option Addr) (cap : Nat) (w : World) (h : hasN X t n = q) (hn : n ≤ 1073741824) (hs : Sl w a n 1 (intF X)) :
    Calls Try.prog 83 #[.slice a n cap, .int .i64 t] w fun r w' => r = .returned (.bool q) ∧ w' = w := h ▸ l1Has_any a n cap X t w hn hs
theorem xs_sl {w : World} {base : Nat} {e : TypeId} {v : Value} {l : List Nat} (h : w.ownsRow base e 1 v l.length (xsV l)) : ∃ a cap, v = .slice a l.length cap ∧ Sl w a l.length 1 (intF (xF l)) := by
  obtain ⟨a, cap, e, hs⟩ := xs_of h
  exact ⟨a, cap, e, hs.sl⟩

set_option maxRecDepth 100000 in
set_option maxHeartbeats 16000000 in
theorem l3Order_any (a : Option Addr) (n cap : Nat) (K T : Nat → Int) (S : Nat → ByteArray) (w : World) (hn : n ≤ 1048576) (hcap : n ≤ cap) (hg : goodO (okO K T S) K T n = true) (hs : Sl w a n 3 (opF K T S)) :
    Calls Try.prog 95 #[.slice a n cap] w (OrdPost (sdL K T S n) (sdOk K T S n) w) := by
  have HS : Hid (Sl w a n 3 (opF K T S)) := hs
  have HG : Hid (goodO (okO K T S) K T n = true) := hg
  clear hs hg
  obtain ⟨i0, hi0, hz0, hz1, hz2⟩ := info_parts info_int'
  go_enter Try.func95, Try.ntmps95
  go_wp2_with fail
  refine (l3Txns_any _ _ _ K T S _ hn HS.out).mono ?_
  rintro r w1 ⟨⟨a1, cap1, rfl, hX1⟩, hb1⟩
  obtain ⟨X, hX⟩ : ∃ X, X = txL T n 9 := ⟨_, rfl⟩
  have hX9 : X.length ≤ 9 := by rw [hX]; exact txL_len T n 9
  have HXB : Hid (∀ x, x ∈ X → 0 < x ∧ x < 9) := fun x hx => by rw [hX] at hx; exact txL_bd hx
  rw [← hX] at hX1
  have HB1 : Hid (Below w.heap.size w w1 ∧ SRow w1 w.heap.size w1.heap.size a1 X.length 1 (intF (xF X))) := ⟨hb1, hX1⟩
  rw [← hX]
  have HX : Hid (X = txL T n 9) := hX
  clear hb1 hX1 hX
  go_wp2_with fail
  refine (l3Conflicts_any _ _ _ K T S _ hn hcap (goodO_out HG.out) (HS.out.kept HB1.out.1)).mono ?_
  rintro r w2 ⟨⟨a2, cap2, rfl, hX2⟩, hb2⟩
  obtain ⟨L, hL⟩ : ∃ L, L = cfT K T S n := ⟨_, rfl⟩
  have hLn : L.length ≤ 81 := by rw [hL]; exact cfT_len K T S n
  rw [← hL] at hX2
  have HB2 : Hid (Below w.heap.size w w2 ∧ SRow w2 w.heap.size w1.heap.size a1 X.length 1 (intF (xF X)) ∧ PRow w2 w1.heap.size w2.heap.size a2 L.length (pP L) (pQ L)) := ⟨below_next HB1.out.1 hb2, HB1.out.2.next hb2, hX2⟩
  rw [← hL]
  obtain ⟨e, he⟩ : ∃ e, e = edB K T S n := ⟨_, rfl⟩
  have HLT : Hid (L = tabL e X X) := by show L = _; rw [hL, he, HX.out]; exact (seL_all (goodO_out HG.out)).symm
  have HSD : Hid (sdO K T S n = ordO e X) := by show _ = _; rw [sdO, if_pos HG.out, he, HX.out]
  clear hb2 hX2 HB1 hL he
  have hw12 : w1.heap.size ≤ w2.heap.size := by have := HB2.out.2.1.2; exact this
  go_wp2
  go_loopw [4] (fun v wr => ∃ out : List Nat, OnWay e X out ∧ wr.ownsRow w2.heap.size 3 1 v out.length (xsV out) ∧ Below w2.heap.size w2 wr) (fun v _ => X.length - lenV v)
  case atStart => exact ⟨[], OnWay.zero e X, World.ownsRow_nil _ _ _ _, Below.refl _ _⟩
  case round =>
    obtain ⟨out, hway, hown, hBr⟩ := hrel
    obtain ⟨wo, hwo⟩ : ∃ x, x = wr := ⟨wr, rfl⟩
    subst hwo
    have hol := hway.1
    obtain ⟨ao, capo, rfl, hos⟩ := xs_sl hown
    by_cases hlt : out.length < X.length
    · have hlt' : (out.length : Int) < (X.length : Int) := by omega
      have HW : Hid (OnWay e X out) := hway
      have HH : Hid (wo.ownsRow w2.heap.size 3 1 (.slice ao out.length capo) out.length (xsV out) ∧ Below w2.heap.size w2 wo) := ⟨hown, hBr⟩
      clear hway hown hBr hos
      go_wp2
      go_loopw [24, 7] (fun x nx wr => ∃ i : Nat, i ≤ X.length ∧ x = .int .i64 i ∧ nx = .int .i64 0 ∧ (∀ j, j < i → ∀ x, X[j]? = some x → rdyB e X out x = false) ∧ wr.ownsRow w2.heap.size 3 1 (.slice ao out.length capo) out.length (xsV out) ∧ Below w2.heap.size w2 wr) (fun x _ _ => X.length - (intOf x).toNat)
      case atStart => exact ⟨0, Nat.zero_le _, rfl, rfl, fun j hj => absurd hj (by omega), HH.out.1, HH.out.2⟩
      case round =>
        obtain ⟨i, hi, rfl, rfl, hno, hown, hBi⟩ := hrel
        clear HH
        obtain ⟨wi, hwi⟩ : ∃ x, x = wr := ⟨wr, rfl⟩
        subst hwi
        by_cases hil : i < X.length
        · have hil' : (i : Int) < (X.length : Int) := by omega
          obtain ⟨t, ht⟩ : ∃ t, X[i]? = some t := ⟨X[i], by simp [hil]⟩
          have htX : t ∈ X := List.mem_of_getElem? ht
          have htb := HXB.out t htX
          rcases (HB2.out.2.1.next (hBi)).sl with h | ⟨b1, off1, rfl, hbs1, hE1⟩
          · omega
          have d0 : wi.cell? ⟨b1, off1 + i, none⟩ = some (.int .i64 (t : Int)) := by
            have := int_cell hE1 hil
            rw [this]; congr 2; simp [xF, List.getD_eq_getElem?_getD, ht]
          have hos := (xs_sl hown)
          obtain ⟨ao', capo', eo, hos⟩ := hos
          cases eo
          have HNO : Hid (∀ j, j < i → ∀ x, X[j]? = some x → rdyB e X out x = false) := hno
          have HTT : Hid (X[i]? = some t) := ht
          have HRD : Hid (rdM (pP L) (pQ L) out t L.length = rdyB e X out t) := rdM_all HLT.out htX
          obtain ⟨q0, hq0⟩ : ∃ q0, q0 = hasN (xF out) (t : Int) out.length := ⟨_, rfl⟩
          have HQ0 : Hid (rdM (pP L) (pQ L) out t 0 = !q0) := by show rdM _ _ _ _ 0 = _; rw [rdM, hq0]
          have HH : Hid (wi.ownsRow w2.heap.size 3 1 (.slice ao out.length capo) out.length (xsV out) ∧ Below w2.heap.size w2 wi) := ⟨hown, hBi⟩
          clear hno hown hBi hE1 ht
          go_wp2_with fail
          refine (l1Has_bool _ _ _ hq0.symm (by omega) hos).mono ?_
          rintro r w9 ⟨rfl, hw9⟩
          have hw9 := hw9.symm
          subst hw9
          clear hos hq0
          go_wp2
          go_loopw [34, 10] (fun x v wr => ∃ m : Nat, m ≤ L.length ∧ x = .int .i64 m ∧ v = .bool (rdM (pP L) (pQ L) out t m) ∧ wr.ownsRow w2.heap.size 3 1 (.slice ao out.length capo) out.length (xsV out) ∧ Below w2.heap.size w2 wr) (fun x _ _ => L.length - (intOf x).toNat)
          case atStart => exact ⟨0, Nat.zero_le _, rfl, by rw [HQ0.out], HH.out.1, HH.out.2⟩
          case round =>
            obtain ⟨m, hm, rfl, rfl, hown, hBi⟩ := hrel
            clear HH d0 HQ0
            by_cases hml : m < L.length
            · have hml' : (m : Int) < (L.length : Int) := by omega
              rcases (HB2.out.2.2.next hBi).sl with h | ⟨b2, off2, rfl, hbs2, hE2⟩
              · omega
              obtain ⟨c0, c1⟩ := pr_cells hE2 hml
              have hzi : w2.heap.size ≤ wr.heap.size := hBi.size
              have hx0 := Bx.new wr [.int .i64 (pP L m), .int .i64 (pQ L m)] 107
              have x0 := hx0.cell 0 rfl
              have x1 := hx0.cell 1 rfl
              have HST : Hid (rdM (pP L) (pQ L) out t (m + 1) = (rdM (pP L) (pQ L) out t m && (pQ L m != (t : Int) || hasN (xF out) (pP L m) out.length))) := rfl
              obtain ⟨rb, hrb⟩ : ∃ rb, rb = rdM (pP L) (pQ L) out t m := ⟨_, rfl⟩
              rw [← hrb] at HST ⊢
              have HN1 : Hid ((wr.alloc (.cells #[.int .i64 (pP L m), .int .i64 (pQ L m)] 107)).ownsRow w2.heap.size 3 1 (.slice ao out.length capo) out.length (xsV out) ∧ Below w2.heap.size w2 (wr.alloc (.cells #[.int .i64 (pP L m), .int .i64 (pQ L m)] 107))) := ⟨own_keep hown (Go.Joins.below_alloc1 _ _), hBi.alloc hzi _⟩
              clear hown hBi hE2 hrb hx0
              cases rb
              · go_wp2
                go_roundw
                case rel => exact ⟨m + 1, by omega, by go_num, by rw [HST.out]; rfl, HN1.out.1, HN1.out.2⟩
                case measure => simp [intOf]; omega
              · cases hqt : (pQ L m != (t : Int))
                · obtain ⟨ao', capo', eo, hos⟩ := xs_sl HN1.out.1
                  cases eo
                  obtain ⟨q1, hq1⟩ : ∃ q1, q1 = hasN (xF out) (pP L m) out.length := ⟨_, rfl⟩
                  rw [hqt, ← hq1] at HST
                  have HQ1 : Hid (hasN (xF out) (pP L m) out.length = q1) := hq1.symm
                  have HOS : Hid (Sl (wr.alloc (.cells #[.int .i64 (pP L m), .int .i64 (pQ L m)] 107)) ao out.length 1 (intF (xF out))) := hos
                  clear hos hq1
                  go_wp2_with fail
                  refine (l1Has_bool _ _ _ HQ1.out (by omega) HOS.out).mono ?_
                  rintro r w9 ⟨rfl, hw9⟩
                  have hw9 := hw9.symm
                  subst hw9
                  go_wp2
                  go_roundw
                  case rel => exact ⟨m + 1, by omega, by go_num, by rw [HST.out]; cases q1 <;> rfl, HN1.out.1, HN1.out.2⟩
                  case measure => simp [intOf]; omega
                · rw [hqt] at HST
                  go_wp2
                  go_roundw
                  case rel => exact ⟨m + 1, by omega, by go_num, by rw [HST.out]; rfl, HN1.out.1, HN1.out.2⟩
                  case measure => simp [intOf]; omega
            · have hmn : m = L.length := by omega
              subst hmn
              have hml' : ¬ ((L.length : Int) < (L.length : Int)) := by omega
              rw [HRD.out]
              obtain ⟨rb, hrb⟩ : ∃ rb, rb = rdyB e X out t := ⟨_, rfl⟩
              have HRB : Hid (rdyB e X out t = rb) := hrb.symm
              rw [← hrb]
              have HH : Hid (wr.ownsRow w2.heap.size 3 1 (.slice ao out.length capo) out.length (xsV out) ∧ Below w2.heap.size w2 wr) := ⟨hown, hBi⟩
              clear hown hBi hrb
              cases rb
              · go_wp2
                go_roundw
                case rel => exact ⟨i + 1, by omega, by go_num, rfl, fun j hj x hx => (Nat.lt_succ_iff_lt_or_eq.1 hj).elim (fun g => HNO.out j g x hx) (fun g => by subst g; rw [HTT.out] at hx; cases hx; exact HRB.out), HH.out.1, HH.out.2⟩
                case measure => simp [intOf]; omega
              · have HFD : Hid (X.find? (rdyB e X out) = some t) := find_at HTT.out HRB.out HNO.out
                have ht0 : ¬ ((t : Int) = 0) := by omega
                have hzi : w2.heap.size ≤ wr.heap.size := HH.out.2.size
                have HNW : Hid (∀ j u, [Value.int .i64 (t : Int)][j]? = some u → (wr.alloc (.cells #[.int .i64 (t : Int)] 3)).cell? ((⟨wr.heap.size, 0, none⟩ : Addr).add j) = some u) := cells_new wr [.int .i64 (t : Int)] 3
                go_wp2_with (first
                  | (at_builtin; refine wpList_append_own_at _ rfl (.tmp 57) (.tmp 59) 25 rfl w2.heap.size 3 i0 (.int .i64 0) 1 8 Try.underlying25 hi0 hz0 hz1 hz2 rfl (by decide) (.slice ao out.length capo) out.length (xsV out) rfl (World.ownsRow.alloc HH.out.1 _) ⟨wr.heap.size, 0, none⟩ 1 1 [.int .i64 (t : Int)] rfl rfl HNW.out (by intro u hu; simp at hu; subst hu; rfl) (by unfold maxLen; omega) (by omega) (by simp <;> omega) ?_; intro v4 w4 hown hgrow hnil hwhere)
                  | go_in)
                have HFF : Hid (w4.ownsRow w2.heap.size 3 1 v4 (out ++ [t]).length (xsV (out ++ [t])) ∧ Below w2.heap.size w2 w4) := by
                  refine ⟨?_, (HH.out.2.alloc HH.out.2.size _).grown hgrow (by simp; omega) (fun j hj => (HH.out.1.lt j hj).1)⟩
                  rw [xsV_snoc, List.length_append]; exact hown
                have hlv : lenV v4 = out.length + 1 := by
                  obtain ⟨a5, c5, e5, _⟩ := xs_sl HFF.out.1
                  rw [e5]; simp [lenV]
                have HLV : Hid (lenV v4 = out.length + 1) := hlv
                clear hown hgrow hnil hwhere hlv
                go_wp2
                go_roundw
                case rel => exact ⟨out ++ [t], HW.out.step hlt HFD.out, HFF.out.1, HFF.out.2⟩
                case measure => rw [HLV.out]; simp [lenV]; omega
        · have hin : i = X.length := by omega
          have HNN : Hid (sdO K T S n = none) := by
            show _ = _
            rw [HSD.out]
            exact HW.out.none hlt (find_no (fun j hj x hx => hno j (by omega) x hx))
          have HBE : Hid (Below w.heap.size w wi) := HB2.out.1.trans (hBi.mono HB2.out.1.size)
          have hil' : ¬ (i : Int) < (X.length : Int) := by omega
          clear hno hown hBi hin hil
          go_wp2
          exact bodyPost_ret (v := .tuple #[.slice none 0 0, .bool false]) (by simp [results, Try.results95, go_sem]) rfl (sd_none HNN.out HBE.out)
    · have HDD : Hid (sdO K T S n = some out) := by show _ = _; rw [HSD.out]; exact hway.done hlt
      obtain ⟨a5, c5, e5, hx⟩ := xs_of hown
      cases e5
      have HF : Hid (OrdPost (sdL K T S n) (sdOk K T S n) w (.returned (.tuple #[.slice ao out.length capo, .bool true])) wo) := by
        rw [sdL, sdOk, HDD.out]
        exact ⟨⟨_, _, rfl, hx.wide (HB2.out.1.size)⟩, HB2.out.1.trans (hBr.mono HB2.out.1.size)⟩
      have hlt' : ¬ (out.length : Int) < (X.length : Int) := by omega
      clear hown hBr hx hway hos hlt
      go_wp2
      exact bodyPost_ret (v := .tuple #[.slice ao out.length capo, .bool true]) (by simp [results, Try.results95, go_sem]) rfl HF.out

set_option maxRecDepth 100000 in
set_option maxHeartbeats 2000000 in
theorem specSerialOrder_any (a : Option Addr) (n cap : Nat) (K T : Nat → Int) (S : Nat → ByteArray) (w : World) (hn : n ≤ 1048576) (hcap : n ≤ cap) (hS : ∀ i, i < n → (S i).size ≤ maxLen) (hs : Sl w a n 3 (opF K T S)) :
    Calls Try.prog 55 #[.slice a n cap] w (OrdPost (sdL K T S n) (sdOk K T S n) w) := by
  have HS : Hid (Sl w a n 3 (opF K T S) ∧ ∀ i, i < n → (S i).size ≤ maxLen) := ⟨hs, hS⟩
  clear hs hS
  go_enter Try.func55, Try.ntmps55
  go_wp2_with fail
  refine (specGoodOps_any _ _ _ K T S _ hn hcap HS.out.2 HS.out.1).mono ?_
  rintro r w1 ⟨rfl, hb1⟩
  have HB1 : Hid (Below w.heap.size w w1) := hb1
  clear hb1
  cases hg : goodO (okO K T S) K T n
  · have HN : Hid (sdO K T S n = none) := by show _ = _; simp [sdO, hg]
    go_wp2
    exact bodyPost_ret (v := .tuple #[.slice none 0 0, .bool false]) (by simp [results, Try.results55, go_sem]) rfl (sd_none HN.out HB1.out)
  have HG : Hid (goodO (okO K T S) K T n = true) := hg
  clear hg
  go_wp2_with fail
  refine (l3Order_any _ _ _ K T S _ hn hcap HG.out (HS.out.1.kept HB1.out)).mono ?_
  rintro r w2 ⟨⟨a2, cap2, rfl, hx⟩, hb2⟩
  have HF : Hid (OrdPost (sdL K T S n) (sdOk K T S n) w (.returned (.tuple #[.slice a2 (sdL K T S n).length cap2, .bool (sdOk K T S n)])) w2) := ⟨⟨_, _, rfl, hx.wide HB1.out.size⟩, below_next HB1.out hb2⟩
  clear hx hb2
  generalize sdOk K T S n = ok at *
  generalize sdL K T S n = l at *
  go_wp2
  exact bodyPost_ret (v := .tuple #[.slice a2 l.length cap2, .bool ok]) (by simp [results, Try.results55, go_sem]) rfl HF.out
end Go.Proofs.Ythbpjmnlgfahmaa
