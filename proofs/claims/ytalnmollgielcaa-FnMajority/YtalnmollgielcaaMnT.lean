/- The contract of the specification's MinimalOf. -/
import Derived.Test.YtalnmollgielcaaMnS
import Derived.Test.YtalnmollgielcaaAmO
namespace Go.Proofs.Ytalnmollgielcaa
open Go.RowKit
set_option linter.unusedVariables false

/-- What stands while group i is held against the others: the list that is built, and i's own box. -/
def MiH (W w1 : World) (v : Value) (L : List Nat) (V : Nat → GV) (g : Nat) (u : Value) : Prop := MiB W w1.heap.size v L.length (anV V L) ∧ BoxS W g u ∧ Below w1.heap.size w1 W
theorem MiH.next {W W' w1 : World} {v : Value} {L : List Nat} {V : Nat → GV} {g : Nat} {u : Value} (h : MiH W w1 v L V g u) (hb : Below W.heap.size W W') : MiH W' w1 v L V g u := ⟨h.1.next hb, h.2.1.next hb, below_next h.2.2 hb⟩
theorem smB_same {V : Nat → GV} {n : Nat} {m : Int} (hg : gsB V n m = true) {i k : Nat} (hi : i < n) (hk : k < n) : smB (V i).x (V i).n (V k).x (V k).n = decide (sw V i = sw V k) := by
  rw [Bool.eq_iff_iff, decide_eq_true_eq, ← same_iff hg hi hk]
  simp [smB]
theorem mtB_iff {s t : Nat} : mtB s t = true ↔ (s &&& t) = t ∧ s ≠ t := by simp [mtB]
/-- What comes of holding group i against group k. -/
theorem bad_step {V : Nat → GV} {n : Nat} {m : Int} (hg : gsB V n m = true) {i k : Nat} (hi : i < n) (hk : k < n) {mn : Bool} (hmn : mn = true ↔ ¬ badP V i k) :
    ((mtTo (V i).x (V k).x (V k).n (V i).n).length = (V k).n → sw V i ≠ sw V k → (false = true ↔ ¬ badP V i (k + 1))) ∧
    (sw V i = sw V k → k < i → (false = true ↔ ¬ badP V i (k + 1))) ∧
    (sw V i = sw V k → ¬ k < i → (mn = true ↔ ¬ badP V i (k + 1))) ∧
    (¬ (mtTo (V i).x (V k).x (V k).n (V i).n).length = (V k).n → (mn = true ↔ ¬ badP V i (k + 1)) ∧ sw V i ≠ sw V k) := by
  have hw := within_iff hg hi hk
  refine ⟨fun h1 h2 => ?_, fun h1 h2 => ?_, fun h1 h2 => ?_, fun h1 => ?_⟩
  · have : badP V i (k + 1) := bad_succ.2 (Or.inr (Or.inl (mtB_iff.2 ⟨hw.1 h1, h2⟩)))
    simp [this]
  · have : badP V i (k + 1) := bad_succ.2 (Or.inr (Or.inr ⟨h2, h1⟩))
    simp [this]
  · rw [hmn, bad_succ]
    have h3 : ¬ mtB (sw V i) (sw V k) = true := fun e => (mtB_iff.1 e).2 h1
    constructor
    · rintro q (r | r | r)
      · exact q r
      · exact h3 r
      · exact h2 r.1
    · exact fun q r => q (Or.inl r)
  · have hne : sw V i ≠ sw V k := fun e => h1 (hw.2 (by rw [e, Nat.and_self]))
    refine ⟨?_, hne⟩
    rw [hmn, bad_succ]
    constructor
    · rintro q (r | r | r)
      · exact q r
      · exact h1 (hw.2 (mtB_iff.1 r).1)
      · exact hne r.2
    · exact fun q r => q (Or.inl r)
/-- Where a group's list lies, as append wants it. -/
def GOk (A : GA) (V : GV) : Prop := (∃ ad, A.a = some ad) ∨ (A.a = none ∧ V.n = 0 ∧ A.c = 0)
/-- A row of the list's own cells. -/
def xC (X : Nat → Int) (n : Nat) : List Value := (List.range n).map fun j => Value.int .i64 (X j)
theorem xC_row {w : World} {base n : Nat} {v : Value} {X : Nat → Int} (h : w.ownsRow base 3 1 v n (xC X n)) : ∃ a cap, v = .slice a n cap ∧ IntS w base w.heap.size a n X := by
  rcases Nat.eq_zero_or_pos n with hz | hp
  · subst hz
    obtain ⟨_, h | ⟨g, cap, cur, rfl, _⟩⟩ := h
    · exact ⟨none, 0, h.1, Or.inl rfl⟩
    · exact ⟨_, cap, rfl, Or.inl rfl⟩
  · obtain ⟨g, cap, rfl⟩ := Go.Joins.ownsRow_form h hp
    refine ⟨_, cap, rfl, Or.inr ⟨g, rfl, (h.lt g rfl).1, (h.lt g rfl).2, (h.lt g rfl).2, fun i hi => ⟨?_, h.frozenAt i⟩⟩⟩
    rw [h.cellAt i (by omega)]
    simp [xC, hi]
theorem xC_cells {w : World} {ad : Addr} {n : Nat} {X : Nat → Int} (h : Sl w (some ad) n 1 (intF X)) : ∀ j u, (xC X n)[j]? = some u → w.cell? (ad.add j) = some u := by
  intro j u hu
  have hj : j < n := by
    rcases Nat.lt_or_ge j n with q | q
    · exact q
    · rw [List.getElem?_eq_none (by simpa [xC] using q)] at hu; cases hu
  rcases h with e | ⟨b, off, e, hb, hE⟩
  · omega
  · simp only [Option.some.injEq] at e
    subst e
    rw [addr_add, int_cell hE hj]
    simp [xC, hj] at hu
    rw [hu]
theorem own_empty (w : World) (t : TypeId) : (w.alloc (.cells #[] t)).ownsRow w.heap.size t 1 (.slice (some ⟨w.heap.size, 0, none⟩) 0 0) 0 [] := by
  refine ⟨rfl, Or.inr ⟨w.heap.size, 0, #[], rfl, Nat.le_refl _, by unfold World.alloc; exact Array.getElem?_push_size .., Nat.le_refl _, Nat.zero_le _, rfl, rfl⟩⟩

set_option maxRecDepth 100000 in
set_option maxHeartbeats 8000000 in
theorem specMinimalOf_any (m : Int) (a : Option Addr) (n cap : Nat) (V : Nat → GV) (A : Nat → GA) (w : World) (hn : n ≤ 1048576) (hm0 : -9223372036854775808 ≤ m) (hm1 : m ≤ 9223372036854775807) (hz : ∀ i, i < n → (V i).n ≤ 1048576) (hA : ∀ i, i < n → GOk (A i) (V i)) (hs : GsS w a n V A) :
    Calls Try.prog 30 #[.int .i64 m, .slice a n cap] w (MiPost V (miL V n m) (gsB V n m) w) := by
  have HS : Hid (GsS w a n V A ∧ (∀ i, i < n → (V i).n ≤ 1048576) ∧ ∀ i, i < n → GOk (A i) (V i)) := ⟨hs, hz, hA⟩
  clear hs hz hA
  have hfd : ∀ (v : Value) (W : World), (Instr.field 25 (.agg #[v]) 0).run Try.prog W = .ok v W := group_fld
  obtain ⟨i0, hi0, hz0, hz1, hz2⟩ := info_parts info_group
  obtain ⟨j0, hj0, hy0, hy1, hy2⟩ := info_parts info_int
  go_enter Try.func30, Try.ntmps30
  go_wp2_with fail
  refine (l8Sets_any m _ _ _ V A _ hn hm0 hm1 HS.out.2.1 HS.out.1).mono ?_
  rintro r w1 ⟨rfl, hb⟩
  have H1 : Hid (Below w.heap.size w w1) := hb
  have hww : w.heap.size ≤ w1.heap.size := hb.size
  clear hb
  cases hg : gsB V n m
  · have HN : Hid (gsB V n m = false) := hg
    clear hg
    go_wp2
    go_ret2
    rw [show miL V n m = [] by simp [miL, HN.out]]
    first | exact mi_no H1.out | (rw [HN.out]; exact mi_no H1.out)
  have HG : Hid (gsB V n m = true) := hg
  have hn40 : n ≤ 40 := (gsB_iff.1 hg).1
  have HS1 : Hid (GsS w1 a n V A) := HS.out.1.next H1.out
  clear hg
  go_wp2
  go_loopw [19, 6, 7, 8, 9, 10, 11, 12] (fun x v _ _ _ _ _ _ wr => ∃ i : Nat, i ≤ n ∧ x = .int .i64 i ∧ MiB wr w1.heap.size v (kp V n i).length (anV V (kp V n i)) ∧ Below w1.heap.size w1 wr) (fun x _ _ _ _ _ _ _ _ => n - (intOf x).toNat)
  case atStart => exact ⟨0, Nat.zero_le _, rfl, MiB.nil _ _ _, Below.refl _ _⟩
  case round =>
    obtain ⟨i, hi, rfl, hM, hBr⟩ := hrel
    obtain ⟨wo, hwo⟩ : ∃ x, x = wr := ⟨wr, rfl⟩
    subst hwo
    obtain ⟨vo, hvo⟩ : ∃ x, x = u6 := ⟨u6, rfl⟩
    subst hvo
    have HH : Hid (MiB wo w1.heap.size vo (kp V n i).length (anV V (kp V n i)) ∧ Below w1.heap.size w1 wo) := ⟨hM, hBr⟩
    clear hM
    by_cases hlt : i < n
    · rcases (HS1.out.next hBr).1 with h | ⟨b, off, rfl, hbs, hE⟩
      · omega
      have hlt' : (i : Int) < (n : Int) := by omega
      have c0 := gs_cell hE hlt
      obtain ⟨g, hgx⟩ : ∃ g, g = wo.heap.size := ⟨_, rfl⟩
      have HO : Hid (MiH (wo.alloc (.cells #[.slice (A i).a (V i).n (A i).c] 25)) w1 vo (kp V n i) V g (.slice (A i).a (V i).n (A i).c)) := ⟨HH.out.1.next (Go.Joins.below_alloc1 _ _), hgx ▸ BoxS.new _ _ _, below_next hBr (Go.Joins.below_alloc1 _ _)⟩
      clear hE hBr HH
      go_wp2
      rw [← hgx]
      clear hgx c0
      go_loopw [26, 9, 10, 11, 12] (fun x s9 _ _ _ wr => ∃ (k : Nat) (mn : Bool), k ≤ n ∧ x = .int .i64 k ∧ s9 = .bool mn ∧ (mn = true ↔ ¬ badP V i k) ∧ MiH wr w1 vo (kp V n i) V g (.slice (A i).a (V i).n (A i).c)) (fun x _ _ _ _ _ => n - (intOf x).toNat)
      case atStart => exact ⟨0, true, Nat.zero_le _, rfl, rfl, ⟨fun _ => fun ⟨j, hj, _⟩ => absurd hj (by omega), fun _ => rfl⟩, HO.out⟩
      case round =>
        obtain ⟨k, mn, hk, rfl, rfl, hmn, hH⟩ := hrel
        have HK : Hid ((mn = true ↔ ¬ badP V i k) ∧ MiH wr w1 vo (kp V n i) V g (.slice (A i).a (V i).n (A i).c)) := ⟨hmn, hH⟩
        clear hmn HO
        by_cases hlk : k < n
        · have hlk' : (k : Int) < (n : Int) := by omega
          have hsr := HS1.out.next hH.2.2
          rcases hsr.1 with h | ⟨b', off', hbo, hbs', hE⟩
          · omega
          simp only [Option.some.injEq, Addr.mk.injEq, and_true] at hbo
          obtain ⟨rfl, rfl⟩ := hbo
          have c1 := gs_cell hE hlk
          have x0 := hH.2.1.1
          have x0z := hH.2.1.2
          obtain ⟨g2, hg2⟩ : ∃ g2, g2 = wr.heap.size := ⟨_, rfl⟩
          obtain ⟨wa, hwa⟩ : ∃ x, x = (wr.alloc (.cells #[.slice (A k).a (V k).n (A k).c] 25)).drew := ⟨_, rfl⟩
          have HW : Hid (MiH wa w1 vo (kp V n i) V g (.slice (A i).a (V i).n (A i).c) ∧ BoxS wa g2 (.slice (A k).a (V k).n (A k).c)) := Hid.intro (by
            rw [hwa, hg2]
            exact ⟨(hH.next (Go.Joins.below_alloc1 _ _)).next (below_drew _), (BoxS.new _ _ _).next (below_drew _)⟩)
          have HT : Hid ((V i).n ≤ 1048576 ∧ (V k).n ≤ 1048576) := ⟨HS.out.2.1 i hlt, HS.out.2.1 k hlk⟩
          clear hsr hE hH
          go_upto_region 11 with fail
          rw [← hg2]
          have HWA : Hid (wa = (wr.alloc (.cells #[.slice (A k).a (V k).n (A k).c] 25)).drew) := hwa
          clear hg2 hwa
          refine wp_region_noPanic ?_
          refine wp_region_held_drew (S := fun W => BoxS W g (.slice (A i).a (V i).n (A i).c) ∧ BoxS W g2 (.slice (A k).a (V k).n (A k).c)) (by kernel_rfl) (HWA.out ▸ ⟨HW.out.1.2.1, HW.out.2⟩) (fun hHeld => ?_)
          refine take_v (v := ?_) 0 ⟨some 31, Op.load 25 (Operand.tmp 8), _, _, _, none⟩ rfl (fun _ _ _ h => h) ?_ hHeld ?_
          rotate_left
          · (intro W hSW; (have s0 := hSW.1.1; have s0z := hSW.1.2; have s1 := hSW.2.1; have s1z := hSW.2.2); go_simp <;> (try with_reducible rfl))
          refine take_v (v := ?_) 1 ⟨some 32, Op.load 25 (Operand.tmp 11), _, _, _, none⟩ rfl (fun _ _ _ h => h) ?_ hHeld ?_
          rotate_left
          · (intro W hSW; (have s0 := hSW.1.1; have s0z := hSW.1.2; have s1 := hSW.2.1; have s1z := hSW.2.2); go_simp <;> (try with_reducible rfl))
          refine take_v (v := ?_) 5 ⟨some 36, Op.fieldAddr 25 (Operand.tmp 11) 0, _, _, _, none⟩ rfl (fun _ _ _ h => h) ?_ hHeld ?_
          rotate_left
          · (intro W _; go_simp <;> (try with_reducible rfl))
          refine take_v (v := ?_) 6 ⟨some 37, Op.load 23 (Operand.tmp 36), _, _, _, none⟩ rfl (fun _ _ _ h => h) ?_ hHeld ?_
          rotate_left
          · (intro W hSW; (have s0 := hSW.1.1; have s0z := hSW.1.2; have s1 := hSW.2.1; have s1z := hSW.2.2); go_simp <;> (try with_reducible rfl))
          refine take_v (v := ?_) 7 ⟨some 38, Op.call { callee := Callee.builtin Builtin.len, args := #[Operand.tmp 37], argTypes := #[23] }, _, _, _, none⟩ rfl (fun _ _ _ h => h) ?_ hHeld ?_
          rotate_left
          · (intro W _; go_simp <;> (try with_reducible rfl))
          refine ready_call 2 ⟨some 33, Op.call { callee := Callee.value (Operand.func 67), args := #[Operand.tmp 31, Operand.tmp 32], argTypes := #[25, 25] }, _, _, _, none⟩ (by kernel_rfl) rfl (by kernel_rfl) (fun KC hK => ?_)
          go_wp2_with fail
          rw [← HWA.out]
          refine (l8Meet_any _ _ _ (V i).x _ _ _ (V k).x _ HT.out.1 HT.out.2 ((HS1.out.next HW.out.1.2.2).2 i hlt) ((HS1.out.next HW.out.1.2.2).2 k hlk)).mono ?_
          rintro r w2 ⟨⟨a5, cap5, rfl, hi5⟩, hb2⟩
          have H2 : Hid (MiH w2 w1 vo (kp V n i) V g (.slice (A i).a (V i).n (A i).c) ∧ BoxS w2 g2 (.slice (A k).a (V k).n (A k).c)) := ⟨HW.out.1.next hb2, HW.out.2.next hb2⟩
          clear hb2 hi5
          refine hK.out _ _ ⟨H2.out.1.2.1, H2.out.2⟩ (fun hHeld => ?_)
          clear hK KC
          refine take_v (v := ?_) 3 ⟨some 34, Op.field 25 (Operand.tmp 33) 0, _, _, _, none⟩ rfl (fun _ _ _ h => h) ?_ hHeld ?_
          rotate_left
          · (intro W _; go_simp <;> (try with_reducible rfl))
          refine take_v (v := ?_) 4 ⟨some 35, Op.call { callee := Callee.builtin Builtin.len, args := #[Operand.tmp 34], argTypes := #[23] }, _, _, _, none⟩ rfl (fun _ _ _ h => h) ?_ hHeld ?_
          rotate_left
          · (intro W _; go_simp <;> (try with_reducible rfl))
          refine take_v (v := ?_) 8 ⟨some 39, Op.binOp BinOp.eql 3 (Operand.tmp 35) (Operand.tmp 38) 3, _, _, _, none⟩ rfl (fun _ _ _ h => h) ?_ hHeld ?_
          rotate_left
          · (intro W _; go_simp <;> (try with_reducible rfl))
          refine take_v (v := ?_) 9 ⟨some 12, Op.assign (Operand.tmp 39), _, _, _, none⟩ rfl (fun _ _ _ h => h) ?_ hHeld ?_
          rotate_left
          · (intro W _; go_simp <;> (try with_reducible rfl))
          refine wpAnyH_done (by kernel_rfl) ?_ _
          refine NoPanic.normal ?_
          clear hHeld x0 x0z c1
          obtain ⟨q1, q2, q3, q4⟩ := bad_step HG.out hlt hlk HK.out.1
          have HQ := Hid.intro (And.intro q1 (And.intro q2 (And.intro q3 q4)))
          have HSM : Hid (smB (V i).x (V i).n (V k).x (V k).n = decide (sw V i = sw V k)) := smB_same HG.out hlt hlk
          clear q1 q2 q3 q4 HK HW
          have x0 := H2.out.1.2.1.1
          have x0z := H2.out.1.2.1.2
          have y0 := H2.out.2.1
          have y0z := H2.out.2.2
          by_cases hwi : (mtTo (V i).x (V k).x (V k).n (V i).n).length = (V k).n
          · have e1 : (((mtTo (V i).x (V k).x (V k).n (V i).n).length : Int) == ((V k).n : Int)) = true := by simp [hwi]
            have HWI : Hid ((mtTo (V i).x (V k).x (V k).n (V i).n).length = (V k).n) := hwi
            clear hwi
            rw [e1]
            generalize (mtTo (V i).x (V k).x (V k).n (V i).n).length = l at *
            go_wp2_with fail
            refine (l8Same_any _ _ _ (V i).x _ _ _ (V k).x _ HT.out.1 HT.out.2 ((HS1.out.next H2.out.1.2.2).2 i hlt) ((HS1.out.next H2.out.1.2.2).2 k hlk)).mono ?_
            rintro r w3 ⟨rfl, hb3⟩
            have H3 : Hid (MiH w3 w1 vo (kp V n i) V g (.slice (A i).a (V i).n (A i).c) ∧ BoxS w3 g2 (.slice (A k).a (V k).n (A k).c)) := ⟨H2.out.1.next hb3, H2.out.2.next hb3⟩
            clear hb3 x0 x0z y0 y0z H2
            by_cases hsm : sw V i = sw V k
            · have hsb : smB (V i).x (V i).n (V k).x (V k).n = true := by rw [HSM.out]; exact decide_eq_true hsm
              rw [hsb]
              have x0 := H3.out.1.2.1.1
              have x0z := H3.out.1.2.1.2
              have y0 := H3.out.2.1
              have y0z := H3.out.2.2
              by_cases hki : k < i
              · have HF : Hid (false = true ↔ ¬ badP V i (k + 1)) := HQ.out.2.1 hsm hki
                have hki' : (k : Int) < (i : Int) := by omega
                have HSB := Hid.intro hsb
                clear hsm hsb HSM
                go_wp2_with fail
                refine (l8Same_any _ _ _ (V i).x _ _ _ (V k).x _ HT.out.1 HT.out.2 ((HS1.out.next H3.out.1.2.2).2 i hlt) ((HS1.out.next H3.out.1.2.2).2 k hlk)).mono ?_
                rintro r w4 ⟨rfl, hb4⟩
                have H4 : Hid (MiH w4 w1 vo (kp V n i) V g (.slice (A i).a (V i).n (A i).c)) := H3.out.1.next hb4
                clear hb4 x0 x0z y0 y0z H3
                rw [HSB.out]
                go_wp2
                go_roundw
                case rel => exact ⟨k + 1, false, by omega, by go_num, rfl, HF.out, H4.out⟩
                case measure => simp [intOf]; omega
              · have HF : Hid (mn = true ↔ ¬ badP V i (k + 1)) := HQ.out.2.2.1 hsm hki
                have hki' : ¬ (k : Int) < (i : Int) := by omega
                clear hsm hsb HSM
                go_wp2
                go_roundw
                case rel => exact ⟨k + 1, mn, by omega, by go_num, rfl, HF.out, H3.out.1⟩
                case measure => simp [intOf]; omega
            · have hsb : smB (V i).x (V i).n (V k).x (V k).n = false := by rw [HSM.out]; exact decide_eq_false hsm
              rw [hsb]
              have HF : Hid (false = true ↔ ¬ badP V i (k + 1)) := HQ.out.1 HWI.out hsm
              clear hsm hsb HSM
              go_wp2
              go_roundw
              case rel => exact ⟨k + 1, false, by omega, by go_num, rfl, HF.out, H3.out.1⟩
              case measure => simp [intOf]; omega
          · have e1 : (((mtTo (V i).x (V k).x (V k).n (V i).n).length : Int) == ((V k).n : Int)) = false := by simp; omega
            have HF : Hid ((mn = true ↔ ¬ badP V i (k + 1)) ∧ sw V i ≠ sw V k) := HQ.out.2.2.2 hwi
            clear hwi
            rw [e1]
            generalize (mtTo (V i).x (V k).x (V k).n (V i).n).length = l at *
            by_cases hki : k < i
            · have hki' : (k : Int) < (i : Int) := by omega
              go_wp2_with fail
              refine (l8Same_any _ _ _ (V i).x _ _ _ (V k).x _ HT.out.1 HT.out.2 ((HS1.out.next H2.out.1.2.2).2 i hlt) ((HS1.out.next H2.out.1.2.2).2 k hlk)).mono ?_
              rintro r w3 ⟨rfl, hb3⟩
              have H3 : Hid (MiH w3 w1 vo (kp V n i) V g (.slice (A i).a (V i).n (A i).c)) := H2.out.1.next hb3
              clear hb3 x0 x0z y0 y0z H2
              have hsb : smB (V i).x (V i).n (V k).x (V k).n = false := by rw [HSM.out]; exact decide_eq_false HF.out.2
              rw [hsb]
              clear hsb HSM
              go_wp2
              go_roundw
              case rel => exact ⟨k + 1, mn, by omega, by go_num, rfl, HF.out.1, H3.out⟩
              case measure => simp [intOf]; omega
            · have hki' : ¬ (k : Int) < (i : Int) := by omega
              clear HSM
              go_wp2
              go_roundw
              case rel => exact ⟨k + 1, mn, by omega, by go_num, rfl, HF.out.1, H2.out.1⟩
              case measure => simp [intOf]; omega
        · have hkn : k = n := by omega
          subst hkn
          clear hH
          cases mn
          · have HKF : Hid (kp V k (i + 1) = kp V k i) := kp_no (by
              cases e : keepB V k i
              · rfl
              · exact absurd ((keep_bad (Nat.le_of_lt hlt)).1 e) (fun q => by have := HK.out.1.2 q; cases this))
            go_wp2
            go_roundw
            case rel => exact ⟨i + 1, by omega, by go_num, by rw [HKF.out]; exact HK.out.2.1, HK.out.2.2.2⟩
            case measure => simp [intOf]; omega
          · have HKT : Hid (kp V k (i + 1) = kp V k i ++ [i]) := kp_yes ((keep_bad (Nat.le_of_lt hlt)).2 (HK.out.1.1 rfl))
            have x0 := HK.out.2.2.1.1
            have x0z := HK.out.2.2.1.2
            have hvn := HS.out.2.1 i hlt
            have hkl := kp_len V k i
            obtain ⟨l0, ho0⟩ := HK.out.2.1.own
            have HO0 : Hid (wr.ownsRow w1.heap.size 25 1 vo (kp V k i).length l0) := ho0
            have hzr1 : w1.heap.size ≤ wr.heap.size := HK.out.2.2.2.size
            have HSl : Hid (Sl wr (A i).a (V i).n 1 (intF (V i).x)) := (HS1.out.next HK.out.2.2.2).2 i hlt
            have HGO : Hid (GOk (A i) (V i)) := HS.out.2.2 i hlt
            clear ho0
            generalize hkk : kp V k i = L at *
            have HE0 : Hid ((wr.alloc (.cells #[] 3)).ownsRow wr.heap.size 3 1 (.slice (some ⟨wr.heap.size, 0, none⟩) 0 0) 0 []) := own_empty wr _
            have hbe : Below wr.heap.size wr (wr.alloc (.cells #[] 3)) := Go.Joins.below_alloc1 _ _
            have HBE : Hid (Below wr.heap.size wr (wr.alloc (.cells #[] 3))) := hbe
            clear hbe
            have HH5 : Hid (∀ (w5 : World), Below wr.heap.size wr w5 → MiB w5 w1.heap.size vo L.length (anV V L) ∧ Below w1.heap.size w1 w5 ∧ w5.ownsRow w1.heap.size 25 1 vo L.length l0 ∧ Below wr.heap.size wr w5) := fun w5 hb => ⟨HK.out.2.1.next hb, below_next HK.out.2.2.2 hb, own_next HO0.out hb, hb⟩
            rcases HGO.out with ⟨ad, had⟩ | ⟨hA0, hV0, hc0⟩
            · rw [had] at x0 HSl ⊢
              clear had HGO
              go_wp2_with (first
                | (at_builtin; refine wpList_append_own_at _ rfl (.tmp 60) (.tmp 62) 23 rfl wr.heap.size 3 j0 (.int .i64 0) 1 8 Try.underlying23 hj0 hy0 hy1 hy2 rfl (by decide) (.slice (some ⟨wr.heap.size, 0, none⟩) 0 0) 0 [] rfl HE0.out ad (V i).n (A i).c (xC (V i).x (V i).n) rfl (by simp [xC]) (xC_cells (HSl.out.kept HBE.out)) (by intro u hu; simp [xC] at hu; obtain ⟨_, _, rfl⟩ := hu; rfl) (by unfold maxLen; omega) (by omega) (by simp) ?_; intro v5 w5 hown5 hgrow5 hnil5 hwh5; obtain ⟨a5, cap5, hv5, hi5⟩ := xC_row (X := (V i).x) (n := (V i).n) (by simpa using hown5); (have hb5 : Below wr.heap.size wr w5 := HBE.out.grown hgrow5 (by simp) (fun k hk => by cases hk; exact Nat.le_refl _)); (have H5 := Hid.intro (HH5.out w5 hb5)); (have HI5 : Hid (IntS w5 wr.heap.size w5.heap.size a5 (V i).n (V i).x) := hi5); (have hzr : wr.heap.size ≤ w5.heap.size := hb5.size); clear hown5 hgrow5 hnil5 hwh5 hi5 hb5 HE0 HBE HSl x0 x0z HH5; subst hv5)
                | (at_builtin; refine wpList_append_own_at _ rfl (.tmp 59) (.tmp 65) 38 rfl w1.heap.size 25 i0 (.agg #[.slice none 0 0]) 1 24 Try.underlying38 hi0 hz0 hz1 hz2 rfl (by decide) vo L.length l0 rfl (World.ownsRow.alloc H5.out.2.2.1 _) ⟨_, 0, none⟩ 1 1 [.slice a5 (V i).n cap5] rfl rfl (one_cell _ _ _) (by intro u hu; simp at hu; subst hu; rfl) (by unfold maxLen; omega) (by omega) (by simp <;> omega) ?_; intro v6 w6 hown hgrow hnil hwh))
              have hba : Below w5.heap.size w5 (w5.alloc (.cells #[.slice a5 (V i).n cap5] 25)) := Go.Joins.below_alloc1 _ _
              have HF : Hid (MiB w6 w1.heap.size v6 (L ++ [i]).length (anV V (L ++ [i])) ∧ Below w1.heap.size w1 w6) := by
                refine ⟨?_, (H5.out.2.1.alloc H5.out.2.1.size _).grown hgrow (by simp; omega) (fun j hj => (H5.out.2.2.1.lt j hj).1)⟩
                rw [List.length_append]
                refine MiB.app (W0 := wr) (X := V i) (lo2 := wr.heap.size) (H5.out.1.next hba) (World.ownsRow.alloc H5.out.2.2.1 _) hzr1 (fun k hk => (HO0.out.lt k hk).2) (fun _ _ _ => trivial) HK.out.2.1 (Nat.le_refl _) (H5.out.2.2.2.trans (hba.mono hzr)) ?_ hgrow hown (by simpa using hwh) (fun r hr => anV_old hr) anV_new
                exact (HI5.out.below hba (Nat.le_refl _)).wide (Nat.le_refl _) (by simp)
              clear hown hgrow hnil hwh hba
              go_wp2
              go_roundw
              case rel => exact ⟨i + 1, by omega, by go_num, by rw [HKT.out]; exact HF.out.1, HF.out.2⟩
              case measure => simp [intOf]; omega
            · have HSl2 : Hid ((V i).n = 0) := hV0
              rw [hA0, hc0, hV0] at x0
              clear hA0 hV0 hc0 HGO HSl
              obtain ⟨q0, hq0⟩ : ∃ q, q = wr.heap.size := ⟨_, rfl⟩
              obtain ⟨w5, hw5⟩ : ∃ x, x = wr.alloc (.cells #[] 3) := ⟨_, rfl⟩
              have H5 := Hid.intro (HH5.out w5 (hw5 ▸ HBE.out))
              have HW5 : Hid (w5 = wr.alloc (.cells #[] 3) ∧ q0 = wr.heap.size) := ⟨hw5, hq0⟩
              have hzr : wr.heap.size ≤ w5.heap.size := H5.out.2.2.2.size
              have HE5 : Hid (w5.ownsRow q0 3 1 (.slice (some ⟨q0, 0, none⟩) 0 0) 0 []) := by have := HE0.out; rw [← hw5, ← hq0] at this; exact this
              clear hw5 hq0 HH5 HBE HE0
              go_wp2_with (first
                | (at_builtin; rw [← HW5.out.1, ← HW5.out.2]; refine wpList_append_own_none rfl (.tmp 60) (.tmp 62) 23 rfl q0 3 j0 1 Try.underlying23 hj0 (.slice (some ⟨q0, 0, none⟩) 0 0) 0 [] rfl HE5.out rfl ?_)
                | (at_builtin; refine wpList_append_own_at _ rfl (.tmp 59) (.tmp 65) 38 rfl w1.heap.size 25 i0 (.agg #[.slice none 0 0]) 1 24 Try.underlying38 hi0 hz0 hz1 hz2 rfl (by decide) vo L.length l0 rfl (World.ownsRow.alloc H5.out.2.2.1 _) ⟨_, 0, none⟩ 1 1 [.slice (some ⟨q0, 0, none⟩) 0 0] rfl rfl (one_cell _ _ _) (by intro u hu; simp at hu; subst hu; rfl) (by unfold maxLen; omega) (by omega) (by simp <;> omega) ?_; intro v6 w6 hown hgrow hnil hwh))
              have hba : Below w5.heap.size w5 (w5.alloc (.cells #[.slice (some ⟨q0, 0, none⟩) 0 0] 25)) := Go.Joins.below_alloc1 _ _
              have HF : Hid (MiB w6 w1.heap.size v6 (L ++ [i]).length (anV V (L ++ [i])) ∧ Below w1.heap.size w1 w6) := by
                refine ⟨?_, (H5.out.2.1.alloc H5.out.2.1.size _).grown hgrow (by simp; omega) (fun j hj => (H5.out.2.2.1.lt j hj).1)⟩
                rw [List.length_append]
                exact MiB.app (W0 := wr) (X := V i) (a := some ⟨q0, 0, none⟩) (c := 0) (lo2 := wr.heap.size) (H5.out.1.next hba) (World.ownsRow.alloc H5.out.2.2.1 _) hzr1 (fun k hk => (HO0.out.lt k hk).2) (fun _ _ _ => trivial) HK.out.2.1 (Nat.le_refl _) (H5.out.2.2.2.trans (hba.mono hzr)) (Or.inl HSl2.out) hgrow (by rw [HSl2.out]; exact hown) (by simpa using hwh) (fun r hr => anV_old hr) anV_new
              clear hown hgrow hnil hwh hba
              go_wp2
              go_roundw
              case rel => exact ⟨i + 1, by omega, by go_num, by rw [HKT.out]; exact HF.out.1, HF.out.2⟩
              case measure => simp [intOf]; omega
    · have hin : i = n := by omega
      subst hin
      obtain ⟨a6, cap6, g6, A6, b6, rfl, hD⟩ := HH.out.1.post hww
      have HP : Hid (MiPost V (miL V i m) (gsB V i m) w (.returned (.tuple #[.slice a6 (kp V i i).length cap6, .bool true])) wo) := by
        show MiPost V (miL V i m) (gsB V i m) w (.returned (.tuple #[.slice a6 (kp V i i).length cap6, .bool true])) wo
        rw [show miL V i m = kp V i i by simp [miL, HG.out], HG.out]
        exact ⟨⟨a6, cap6, g6, A6, b6, rfl, hD⟩, H1.out.trans (hBr.mono hww)⟩
      clear hD hBr HH
      generalize (kp V i i).length = l at *
      go_wp2
      go_ret2
      exact HP.out
end Go.Proofs.Ytalnmollgielcaa
