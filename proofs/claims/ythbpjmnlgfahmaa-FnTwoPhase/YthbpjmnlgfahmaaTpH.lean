/- The contract of holdingsOf. -/
import Derived.Test.YthbpjmnlgfahmaaTpC
import Derived.Test.YthbpjmnlgfahmaaRdF
import Derived.Test.YthbpjmnlgfahmaaRg
import Derived.Deep.QuietTactic
import Derived.BigQuiet
import Derived.Laws.OwnMore
namespace Go.Proofs.Ythbpjmnlgfahmaa
open Go.RowKit
set_option linter.unusedVariables false

def hoF (H : Nat → Ho) (i j : Nat) : Value := if j = 0 then .int .i64 (H i).t else if j = 1 then .string (H i).s else if j = 2 then .int .i64 (H i).f else if j = 3 then .int .i64 (H i).z else .bool (H i).w
theorem ho_cells {w : World} {b n k : Nat} {H : Nat → Ho} (h : Elems w b 0 n 5 (hoF H)) (hk : k < n) :
    w.cell? ⟨b, k * 5, none⟩ = some (.int .i64 (H k).t) ∧ w.cell? ⟨b, k * 5 + 1, none⟩ = some (.string (H k).s) ∧ w.cell? ⟨b, k * 5 + 2, none⟩ = some (.int .i64 (H k).f) ∧ w.cell? ⟨b, k * 5 + 3, none⟩ = some (.int .i64 (H k).z) ∧ w.cell? ⟨b, k * 5 + 4, none⟩ = some (.bool (H k).w) := by
  have e : ∀ j, j < 5 → w.cell? ⟨b, k * 5 + j, none⟩ = some (hoF H k j) := fun j hj => by have := h k hk j hj; rw [Nat.zero_add] at this; exact this
  exact ⟨e 0 (by omega), e 1 (by omega), e 2 (by omega), e 3 (by omega), e 4 (by omega)⟩
theorem cells_up (H : Nat → Ho) (j c : Nat) (l : Int) (b : Bool) (hj : j < c) : ((cellsL (hoF H) 5 c).set (j * 5 + 3) (.int .i64 (max (H j).z l))).set (j * 5 + 4) (.bool ((H j).w || b)) = cellsL (hoF (hoUp H j l b)) 5 c := by
  apply List.ext_getElem?
  intro i
  rcases Nat.lt_or_ge i (c * 5) with h | h
  · have e : i = i / 5 * 5 + i % 5 := by omega
    have h1 := cellsL_at (hoF (hoUp H j l b)) 5 c (i / 5) (i % 5) (by omega) (by omega)
    have h2 := cellsL_at (hoF H) 5 c (i / 5) (i % 5) (by omega) (by omega)
    rw [← e] at h1 h2
    rw [h1]
    by_cases e4 : j * 5 + 4 = i
    · have a1 : i / 5 = j := by omega
      have a2 : i % 5 = 4 := by omega
      rw [e4, List.getElem?_set_self (by rw [List.length_set, cellsL_len]; exact h), a1, a2]
      simp [hoF, hoUp]
    · rw [List.getElem?_set_ne e4]
      by_cases e3 : j * 5 + 3 = i
      · have a1 : i / 5 = j := by omega
        have a2 : i % 5 = 3 := by omega
        rw [e3, List.getElem?_set_self (by rw [cellsL_len]; exact h), a1, a2]
        simp [hoF, hoUp]
      · rw [List.getElem?_set_ne e3, h2]
        by_cases ej : i / 5 = j
        · rw [ej]
          have : i % 5 = 0 ∨ i % 5 = 1 ∨ i % 5 = 2 := by omega
          rcases this with q | q | q <;> rw [q] <;> simp [hoF, hoUp]
        · simp [hoF, hoUp, ej]
  · rw [List.getElem?_eq_none (by rw [List.length_set, List.length_set, cellsL_len]; exact h), List.getElem?_eq_none (by rw [cellsL_len]; exact h)]
theorem cells_add (H : Nat → Ho) (c : Nat) (x : Ho) : cellsL (hoF (hoAdd H c x)) 5 (c + 1) = cellsL (hoF H) 5 c ++ [.int .i64 x.t, .string x.s, .int .i64 x.f, .int .i64 x.z, .bool x.w] := by
  rw [cellsL, cellsL_congr (G := hoF H) (fun i hi j hj => by simp [hoF, hoAdd, show i ≠ c by omega])]
  simp [hoF, hoAdd, List.range, List.range.loop]
theorem info_hold : (Try.prog.info? 92).map (fun i => (i.zero, i.size, i.bytes)) = some (some (.agg #[.int .i64 0, .string ⟨#[]⟩, .int .i64 0, .int .i64 0, .bool false]), 5, 48) := by kernel_rfl
def CellS (w : World) (b o : Nat) (v : Value) : Prop := w.cell? ⟨b, o, none⟩ = some v ∧ b < w.heap.size
theorem CellS.next {w w' : World} {b o : Nat} {v : Value} (h : CellS w b o v) (hb : Below w.heap.size w w') : CellS w' b o v := ⟨(hb.cell (p := ⟨b, o, none⟩) h.2).trans h.1, Nat.lt_of_lt_of_le h.2 hb.size⟩
theorem below_drewR {B : Nat} {a w : World} (h : Below B a w) (n : Nat) : Below B a (w.drewN n) := ⟨h.os, h.tape, h.output, h.size, h.block⟩
theorem below_drewQ (w : World) (n : Nat) : Below w.heap.size w (w.drewN n) := below_drewR (Below.refl _ _) n
theorem Op1.far {w w' : World} {row : Option Nat} {g : Nat} {k t : Int} {s : ByteArray} (h : Op1 w g k t s) (hg : w.grownBy w' row) (hs : w.heap.size ≤ w'.heap.size) (hne : some g ≠ row) : Op1 w' g k t s :=
  ⟨(hg.cell_far ⟨g, 0, none⟩ h.2.2.2 hne).trans h.1, (hg.cell_far ⟨g, 1, none⟩ h.2.2.2 hne).trans h.2.1, (hg.cell_far ⟨g, 2, none⟩ h.2.2.2 hne).trans h.2.2.1, Nat.lt_of_lt_of_le h.2.2.2 hs⟩
theorem CellS.far {w w' : World} {row : Option Nat} {b o : Nat} {v : Value} (h : CellS w b o v) (hg : w.grownBy w' row) (hs : w.heap.size ≤ w'.heap.size) (hne : some b ≠ row) : CellS w' b o v :=
  ⟨(hg.cell_far ⟨b, o, none⟩ h.2 hne).trans h.1, Nat.lt_of_lt_of_le h.2 hs⟩
def HoldsPost (K T : Nat → Int) (S : Nat → ByteArray) (L : Nat → Int) (n : Nat) (w : World) (r : Ending) (w' : World) : Prop :=
  (∃ (a : Option Addr) (c cap : Nat) (H : Nat → Ho), r = .returned (.slice a c cap) ∧ HoI K T S L H c n ∧ SRow w' w.heap.size w'.heap.size a c 5 (hoF H)) ∧ Below w.heap.size w w'

set_option maxRecDepth 100000 in
set_option maxHeartbeats 8000000 in
theorem holdingsOf_any (a : Option Addr) (n cap : Nat) (K T : Nat → Int) (S : Nat → ByteArray) (a' : Option Addr) (cap' : Nat) (L : Nat → Int) (w : World) (hn : n ≤ 1048576) (hg : goodP (okO K T S) K T n) (hk : lkP K L n n) (hs : Sl w a n 3 (opF K T S)) (hl : Sl w a' n 1 (intF L)) :
    Calls Try.prog 70 #[.slice a n cap, .slice a' n cap'] w (HoldsPost K T S L n w) := by
  have HS : Hid (Sl w a n 3 (opF K T S) ∧ Sl w a' n 1 (intF L)) := ⟨hs, hl⟩
  have HG : Hid (goodP (okO K T S) K T n ∧ lkP K L n n) := ⟨hg, hk⟩
  clear hs hl hg hk
  obtain ⟨i0, hi0, hz0, hz1, hz2⟩ := info_parts info_hold
  go_enter Try.func70, Try.ntmps70
  go_wp2
  go_step3
  go_wp2
  go_step3
  go_wp2
  go_loopw [12, 5] (fun x v wr => ∃ (k c : Nat) (H : Nat → Ho), k ≤ n ∧ x = .int .i64 k ∧ wr.ownsRow w.heap.size 92 5 v c (cellsL (hoF H) 5 c) ∧ HoI K T S L H c k ∧ Below w.heap.size w wr) (fun x _ _ => n - (intOf x).toNat)
  case atStart => exact ⟨0, 0, fun _ => ⟨0, ⟨#[]⟩, 0, 0, false⟩, Nat.zero_le _, rfl, World.ownsRow_nil _ _ _ _, HoI.zero _ _ _ _ _, Below.refl _ _⟩
  case round =>
    obtain ⟨k, c, H, hk, rfl, hown, hI, hBr⟩ := hrel
    obtain ⟨wo, hwo⟩ : ∃ x, x = wr := ⟨wr, rfl⟩
    subst hwo
    obtain ⟨a5, cap5, rfl, hcap5, hrow⟩ := SRow.of hown
    by_cases hlt : k < n
    · rcases HS.out.1.below hBr (Nat.le_refl _) with h | ⟨b, off, rfl, hbs, hE⟩
      · omega
      rcases HS.out.2.below hBr (Nat.le_refl _) with h | ⟨b', off', rfl, hbs', hE'⟩
      · omega
      have hlt' : (k : Int) < (n : Int) := by omega
      obtain ⟨c0, c1, c2⟩ := op_cells hE hlt
      have d0 := int_cell hE' hlt
      have hz : w.heap.size ≤ wo.heap.size := hBr.size
      have hck : c ≤ 1048576 := by have := hI.2.2.2; omega
      have HH : Hid (wo.ownsRow w.heap.size 92 5 (.slice a5 c cap5) c (cellsL (hoF H) 5 c) ∧ HoI K T S L H c k ∧ Below w.heap.size w wo ∧ SRow wo w.heap.size wo.heap.size a5 c 5 (hoF H) ∧ CellS wo b' (off' + k) (.int .i64 (L k))) := ⟨hown, hI, hBr, hrow, d0, hbs'⟩
      clear hown hI hBr hrow hE hE' d0
      cases h3 : (K k == 3)
      case true =>
        have HI : Hid (HoI K T S L H c (k + 1)) := HH.out.2.1.skip HG.out.1 hlt (by simpa using h3)
        go_wp2
        go_roundw
        case rel => exact ⟨k + 1, c, H, by omega, by go_num, own_keep HH.out.1 (Go.Joins.below_alloc1 _ _), HI.out, HH.out.2.2.1.alloc hz _⟩
        case measure => simp [intOf]; omega
      have HK3 : Hid (K k ≠ 3) := by show K k ≠ 3; simpa using h3
      go_wp2
      go_loopw [22] (fun x wr => ∃ m : Nat, m ≤ c ∧ x = .int .i64 m ∧ (∀ i, i < m → mB T S k (H i).t (H i).s = false) ∧ Op1 wr wo.heap.size (K k) (T k) (S k) ∧ Below wo.heap.size wo wr) (fun x _ => c - (intOf x).toNat)
      case atStart => exact ⟨0, Nat.zero_le _, rfl, fun i hi => absurd hi (by omega), Op1.new _ _ _ _ _, Go.Joins.below_alloc1 _ _⟩
      case round =>
        obtain ⟨m, hm, rfl, hno, hev, hBi⟩ := hrel
        clear c0 c1 c2
        have hzi : wo.heap.size ≤ wr.heap.size := hBi.size
        by_cases hml : m < c
        · have hml' : (m : Int) < (c : Int) := by omega
          rcases (HH.out.2.2.2.1.next hBi).1 with h | ⟨g, rfl, hgB, hgC, hgl, hE, hRm⟩
          · omega
          obtain ⟨e0, e1, e2, e3, e4⟩ := ho_cells hE hml
          have HE1 : Hid (Op1 wr wo.heap.size (K k) (T k) (S k)) := hev
          obtain ⟨g0, g1, g2, hgl1⟩ := hev
          have HW : Hid ((∀ i, i < m → mB T S k (H i).t (H i).s = false) ∧ Below wo.heap.size wo wr ∧ wr.ownsRow w.heap.size 92 5 (.slice (some ⟨g, 0, none⟩) c cap5) c (cellsL (hoF H) 5 c)) := ⟨hno, hBi, own_keep HH.out.1 hBi⟩
          have hl0 := (HH.out.2.2.2.2.next hBi).1
          have hl1 := (HH.out.2.2.2.2.next hBi).2
          have fz3 := HW.out.2.2.frozenAt (m * 5 + 3)
          have fz4 := HW.out.2.2.frozenAt (m * 5 + 4)
          clear hno hBi hE hRm
          cases h1 : ((H m).t == T k)
          · have HN : Hid (mB T S k (H m).t (H m).s = false) := by show _ = _; have : ¬ T k = (H m).t := fun e => by rw [e] at h1; simp at h1
                                                                   simp [mB, this]
            go_upto_region 10 with fail
            go_quiet (fail)
            go_wp2
            go_roundw
            case rel => exact ⟨m + 1, by omega, by go_num, fun i hi => (Nat.lt_succ_iff_lt_or_eq.1 hi).elim (HW.out.1 i) (fun e => e ▸ HN.out), HE1.out.next (below_drewQ _ _), below_drewR HW.out.2.1 _⟩
            case measure => simp [intOf]; omega
          cases h2 : ((H m).s.toList == (S k).toList)
          · have HN : Hid (mB T S k (H m).t (H m).s = false) := by show _ = _; have : ¬ (S k).toList = (H m).s.toList := fun e => by rw [e] at h2; simp at h2
                                                                   simp [mB, this]
            go_upto_region 10 with fail
            go_quiet (fail)
            go_wp2
            go_roundw
            case rel => exact ⟨m + 1, by omega, by go_num, fun i hi => (Nat.lt_succ_iff_lt_or_eq.1 hi).elim (HW.out.1 i) (fun e => e ▸ HN.out), HE1.out.next (below_drewQ _ _), below_drewR HW.out.2.1 _⟩
            case measure => simp [intOf]; omega
          have HM : Hid ((H m).t = T k ∧ (H m).s.toList = (S k).toList) := ⟨by simpa using h1, by simpa using h2⟩
          go_upto_region 10 with fail
          go_quiet (fail)
          obtain ⟨wq, hwq⟩ : ∃ x, x = wr.drewN nq := ⟨_, rfl⟩
          have hbq : Below wr.heap.size wr wq := hwq ▸ below_drewQ _ _
          rw [← hwq]
          clear hwq
          have HO : Hid (Op1 wq wo.heap.size (K k) (T k) (S k)) := HE1.out.next hbq
          obtain ⟨o0, o1, o2, o3⟩ := HE1.out.next hbq
          have q3 := (hbq.cell (p := ⟨g, m * 5 + 3, none⟩) hgl).trans e3
          have q4 := (hbq.cell (p := ⟨g, m * 5 + 4, none⟩) hgl).trans e4
          have r3 := (hbq.frozen (p := ⟨g, m * 5 + 3, none⟩) hgl).trans fz3
          have r4 := (hbq.frozen (p := ⟨g, m * 5 + 4, none⟩) hgl).trans fz4
          have ql := (hbq.cell (p := ⟨b', off' + k, none⟩) hl1).trans hl0
          have zg : g < wq.heap.size := Nat.lt_of_lt_of_le hgl hbq.size
          have zb : b' < wq.heap.size := Nat.lt_of_lt_of_le hl1 hbq.size
          have hgo : g ≠ wo.heap.size := by omega
          have hgo' : wo.heap.size ≠ g := by omega
          have HR : Hid (wq.ownsRow w.heap.size 92 5 (.slice (some ⟨g, 0, none⟩) c cap5) c (cellsL (hoF H) 5 c) ∧ Below w.heap.size w wq ∧ w.heap.size ≤ g) := ⟨own_keep HW.out.2.2 hbq, below_next (below_next HH.out.2.2.1 HW.out.2.1) hbq, hgB⟩
          have HU : Hid (HoI K T S L (hoUp H m (L k) (K k == 2)) c (k + 1)) := HH.out.2.1.up hml HK3.out HM.out.1 HM.out.2
          clear e0 e1 e2 e3 e4 g0 g1 g2 fz3 fz4 hl0 hl1 hbq h1 h2 HW HM
          go_upto_region 11 with fail
          go_region
          obtain ⟨w5, hw5⟩ : ∃ x, x = (wq.setCell ⟨g, m * 5 + 3, none⟩ (.int .i64 (max (H m).z (L k)))).drew := ⟨_, rfl⟩
          have x4 : w5.cell? ⟨g, m * 5 + 4, none⟩ = some (.bool (H m).w) := by
            rw [hw5, World.cell?_drew, World.cell?_setCell_other _ _ _ _ (addr_ne (by omega))]; exact q4
          have x0 : w5.cell? ⟨wo.heap.size, 0, none⟩ = some (.int .i64 (K k)) := by
            rw [hw5, World.cell?_drew, World.cell?_setCell_other _ _ _ _ (addr_ne' hgo)]; exact o0
          have f4 : w5.frozen? ⟨g, m * 5 + 4, none⟩ = false := by rw [hw5]; simpa using r4
          have z5 : w5.heap.size = wq.heap.size := by rw [hw5]; simp
          have zg5 : g < w5.heap.size := by omega
          have zo5 : wo.heap.size < w5.heap.size := by omega
          have HX : Hid (∀ b : Bool, b = ((H m).w || K k == 2) → (w5.setCell ⟨g, m * 5 + 4, none⟩ (.bool b)).ownsRow w.heap.size 92 5 (.slice (some ⟨g, 0, none⟩) c cap5) c (cellsL (hoF (hoUp H m (L k) (K k == 2))) 5 c) ∧ Below w.heap.size w (w5.setCell ⟨g, m * 5 + 4, none⟩ (.bool b))) := by
            rintro b rfl
            have hr5 : w5.ownsRow w.heap.size 92 5 (.slice (some ⟨g, 0, none⟩) c cap5) c ((cellsL (hoF H) 5 c).set (m * 5 + 3) (.int .i64 (max (H m).z (L k)))) := by
              rw [hw5]; exact own_keep (HR.out.1.stored _ _).1 (below_drew _)
            have hb5 : Below w.heap.size w w5 := by
              rw [hw5]; exact (HR.out.2.1.setCell (p := ⟨g, m * 5 + 3, none⟩) HR.out.2.2 _).drew
            refine ⟨?_, hb5.setCell (p := ⟨g, m * 5 + 4, none⟩) HR.out.2.2 _⟩
            rw [← cells_up H m c (L k) (K k == 2) hml]
            exact (hr5.stored _ _).1
          rw [← hw5]
          clear hw5 q3 q4 r3 r4 ql o0 o1 o2 o3 z5 HR
          generalize (H m).w = wm at *
          cases wm <;> cases h4 : (K k == 2)
          all_goals
            rw [h4] at HX HU
            go_wp2
            go_roundw
            (case rel => exact ⟨k + 1, c, _, by omega, by go_num, (HX.out _ rfl).1, HU.out, (HX.out _ rfl).2⟩)
            (case measure => simp [intOf]; omega)
        · have hmc : m = c := by omega
          subst hmc
          have HW : Hid ((∀ i, i < m → mB T S k (H i).t (H i).s = false) ∧ Below wo.heap.size wo wr) := ⟨hno, hBi⟩
          have HI : Hid (HoI K T S L (hoAdd H m ⟨T k, S k, k, L k, K k == 2⟩) (m + 1) (k + 1)) := HH.out.2.1.add HG.out.1 hlt HK3.out (lk_pos HG.out.2 hlt).1 hno
          have HX : Hid (Op1 wr wo.heap.size (K k) (T k) (S k) ∧ CellS wr b' (off' + k) (.int .i64 (L k))) := ⟨hev, HH.out.2.2.2.2.next hBi⟩
          have hzr : wo.heap.size ≤ wr.heap.size := hBi.size
          have hbw : b' < w.heap.size := by
            rcases HS.out.2 with h | ⟨x, y, e, hx, _⟩
            · omega
            · cases e; exact hx
          have hLL := lk_pos HG.out.2 hlt
          clear hno hBi hev
          obtain ⟨kk, hkk⟩ : ∃ kk, kk = K k := ⟨_, rfl⟩
          rw [← hkk] at HX HI h3
          clear hkk
          go_upto_region 14 with fail
          refine wp_region_noPanic ?_
          refine wp_region_held_drew (S := fun W => Op1 W wo.heap.size kk (T k) (S k) ∧ CellS W b' (off' + k) (.int .i64 (L k))) (by kernel_rfl) ⟨HX.out.1.next (below_drew _), HX.out.2.next (below_drew _)⟩ (fun hHeld => ?_)
          refine take_v (v := ?_) 0 ⟨some 69, Op.move (Operand.tmp 5), _, _, _, none⟩ rfl (fun _ _ _ h => h) ?_ hHeld ?_
          rotate_left
          · (intro W _; go_simp <;> (try with_reducible rfl))
          refine take_v (v := ?_) 1 ⟨some 70, Op.fieldAddr 44 (Operand.tmp 7) 1, _, _, _, none⟩ rfl (fun _ _ _ h => h) ?_ hHeld ?_
          rotate_left
          · (intro W _; go_simp <;> (try with_reducible rfl))
          refine take_v (v := ?_) 2 ⟨some 71, Op.load 3 (Operand.tmp 70), _, _, _, none⟩ rfl (fun _ _ _ h => h) ?_ hHeld ?_
          rotate_left
          · (intro W hSW; obtain ⟨⟨s0, s1, s2, s3⟩, s4, s5⟩ := hSW; go_simp <;> (try with_reducible rfl))
          refine take_v (v := ?_) 3 ⟨some 72, Op.fieldAddr 44 (Operand.tmp 7) 2, _, _, _, none⟩ rfl (fun _ _ _ h => h) ?_ hHeld ?_
          rotate_left
          · (intro W _; go_simp <;> (try with_reducible rfl))
          refine take_v (v := ?_) 4 ⟨some 73, Op.load 9 (Operand.tmp 72), _, _, _, none⟩ rfl (fun _ _ _ h => h) ?_ hHeld ?_
          rotate_left
          · (intro W hSW; obtain ⟨⟨s0, s1, s2, s3⟩, s4, s5⟩ := hSW; go_simp <;> (try with_reducible rfl))
          refine take_v (v := ?_) 5 ⟨some 74, Op.move (Operand.tmp 6), _, _, _, none⟩ rfl (fun _ _ _ h => h) ?_ hHeld ?_
          rotate_left
          · (intro W _; go_simp <;> (try with_reducible rfl))
          refine take_v (v := ?_) 6 ⟨some 75, Op.move (Operand.tmp 1), _, _, _, none⟩ rfl (fun _ _ _ h => h) ?_ hHeld ?_
          rotate_left
          · (intro W _; go_simp <;> (try with_reducible rfl))
          refine take_v (v := ?_) 7 ⟨some 76, Op.move (Operand.tmp 6), _, _, _, none⟩ rfl (fun _ _ _ h => h) ?_ hHeld ?_
          rotate_left
          · (intro W _; go_simp <;> (try with_reducible rfl))
          refine take_v (v := ?_) 8 ⟨some 77, Op.indexAddr 25 (Operand.tmp 75) (Operand.tmp 76), _, _, _, none⟩ rfl (fun _ _ _ h => h) ?_ hHeld ?_
          rotate_left
          · (intro W _; go_simp <;> (try with_reducible rfl))
          refine take_v (v := ?_) 9 ⟨some 78, Op.load 3 (Operand.tmp 77), _, _, _, none⟩ rfl (fun _ _ _ h => h) ?_ hHeld ?_
          rotate_left
          · (intro W hSW; obtain ⟨⟨s0, s1, s2, s3⟩, s4, s5⟩ := hSW; go_simp <;> (try with_reducible rfl))
          refine take_v (v := ?_) 10 ⟨some 79, Op.fieldAddr 44 (Operand.tmp 7) 0, _, _, _, none⟩ rfl (fun _ _ _ h => h) ?_ hHeld ?_
          rotate_left
          · (intro W _; go_simp <;> (try with_reducible rfl))
          refine take_v (v := ?_) 11 ⟨some 80, Op.load 3 (Operand.tmp 79), _, _, _, none⟩ rfl (fun _ _ _ h => h) ?_ hHeld ?_
          rotate_left
          · (intro W hSW; obtain ⟨⟨s0, s1, s2, s3⟩, s4, s5⟩ := hSW; go_simp <;> (try with_reducible rfl))
          refine take_v (v := ?_) 12 ⟨some 81, Op.binOp BinOp.eql 3 (Operand.tmp 80) (Operand.const (Value.int IntKind.i64 2)) 3, _, _, _, none⟩ rfl (fun _ _ _ h => h) ?_ hHeld ?_
          rotate_left
          · (intro W _; go_simp <;> (try with_reducible rfl))
          refine take_v (v := ?_) 13 ⟨some 82, Op.build 92 #[(0, Operand.tmp 71), (1, Operand.tmp 73), (2, Operand.tmp 74), (3, Operand.tmp 78), (4, Operand.tmp 81)], _, _, _, none⟩ rfl (fun _ _ _ h => h) ?_ hHeld ?_
          rotate_left
          · (intro W _; go_simp <;> (try with_reducible rfl))
          refine ready_call 14 ⟨some 83, Op.buildSlice 89 1 #[(0, Operand.tmp 82)], _, _, _, none⟩ (by kernel_rfl) rfl (by kernel_rfl) (fun K hK => ?_)
          go_wp2_with fail
          refine hK.out _ _ ⟨hHeld.1.next (Go.Joins.below_alloc1 _ _), hHeld.2.next (Go.Joins.below_alloc1 _ _)⟩ (fun hHeld => ?_)
          clear hK K
          refine ready_call 15 ⟨some 84, Op.call { callee := Callee.builtin Builtin.append, args := #[Operand.tmp 69, Operand.tmp 83], argTypes := #[89, 89] }, _, _, _, none⟩ (by kernel_rfl) rfl (by kernel_rfl) (fun K hK => ?_)
          have hrow : (wr.drew.alloc (.cells #[.int .i64 (T k), .string (S k), .int .i64 (k : Int), .int .i64 (L k), .bool (kk == 2)] 92)).ownsRow w.heap.size 92 5 (.slice a5 m cap5) m (cellsL (hoF H) 5 m) := own_keep (own_keep (own_keep HH.out.1 HW.out.2) (below_drew _)) (Go.Joins.below_alloc1 _ _)
          refine wp_append_lies _ (.tmp 69) (.tmp 83) 89 (by rfl) w.heap.size 92 i0 (.agg #[.int .i64 0, .string ⟨#[]⟩, .int .i64 0, .int .i64 0, .bool false]) 5 48 Try.underlying89 hi0 hz0 hz1 hz2 rfl (by decide) (.slice a5 m cap5) m (cellsL (hoF H) 5 m) (by rfl) hrow ⟨wr.drew.heap.size, 0, none⟩ 1 1 [.int .i64 (T k), .string (S k), .int .i64 (k : Int), .int .i64 (L k), .bool (kk == 2)] (by rfl) rfl (cells_new wr.drew [.int .i64 (T k), .string (S k), .int .i64 (k : Int), .int .i64 (L k), .bool (kk == 2)] 92) (by intro u hu; simp at hu; rcases hu with rfl | rfl | rfl | rfl | rfl <;> rfl) (by omega) (by unfold maxLen; omega) (by omega) (by simp; omega) _ rfl ?_
          intro g4 cap4 w4 hown4 hgrow hat hlt4
          refine hK.out _ _ ⟨hHeld.1.far hgrow hgrow.size (fun e => by have := (HH.out.1.lt _ e.symm).2; omega), hHeld.2.far hgrow hgrow.size (fun e => by have := (HH.out.1.lt _ e.symm).1; omega)⟩ (fun hHeld => ?_)
          clear hK K
          refine take_v (v := ?_) 16 ⟨some 5, Op.assign (Operand.tmp 84), _, _, _, none⟩ rfl (fun _ _ _ h => h) ?_ hHeld ?_
          rotate_left
          · (intro W _; go_simp <;> (try with_reducible rfl))
          refine wpAnyH_done (by kernel_rfl) ?_ _
          refine NoPanic.normal ?_
          have HF : Hid (w4.ownsRow w.heap.size 92 5 (.slice (some ⟨g4, 0, none⟩) (m + 1) cap4) (m + 1) (cellsL (hoF (hoAdd H m ⟨T k, S k, k, L k, kk == 2⟩)) 5 (m + 1)) ∧ Below w.heap.size w w4) := by
            refine ⟨?_, ((below_next (below_next HH.out.2.2.1 HW.out.2) (below_drew _)).alloc (by simp; omega) _).grown hgrow (by simp; omega) (fun j hj => (HH.out.1.lt j hj).1)⟩
            rw [cells_add]; exact hown4
          clear hown4 hgrow hat hrow
          go_wp2
          go_roundw
          case rel => exact ⟨k + 1, m + 1, _, by omega, by go_num, HF.out.1, HI.out, HF.out.2⟩
          case measure => simp [intOf]; omega
    · have hkn : k = n := by omega
      subst hkn
      have HF : Hid (HoldsPost K T S L k w (.returned (.slice a5 c cap5)) wo) := ⟨⟨a5, c, cap5, H, rfl, hI, hrow⟩, hBr⟩
      clear hown hI hBr hrow
      go_wp2
      try rw [Exit.noGoto_ret]
      go_ret
      exact HF.out
end Go.Proofs.Ythbpjmnlgfahmaa
