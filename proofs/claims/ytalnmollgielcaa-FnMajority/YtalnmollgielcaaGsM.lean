/- Lists of groups: the contracts of toGroupS, eqGroupS, markGroupS, heldGroupS. -/
import Derived.Test.YtalnmollgielcaaGsL
import Derived.Deep.AppendLies
namespace Go.Proofs.Ytalnmollgielcaa
open Go.RowKit
set_option linter.unusedVariables false

/-- What toGroupS has made of the first k. -/
structure GsB (w : World) (g n k : Nat) (V : Nat → GV) (A : Nat → GA) (b : Nat → Nat) : Prop where
  room : Room w g (n * 1)
  row : Elems w g 0 k 1 (gsF V A)
  lst : ∀ i, i < k → IntS w (b i) (b i + 1) (A i).a (V i).n (V i).x
  lay : ∀ i, i < k → (V i).n ≠ 0 → g < b i ∧ b i < w.heap.size
  one : ∀ i j, i < j → j < k → (V i).n ≠ 0 → (V j).n ≠ 0 → b i < b j
  top : g < w.heap.size
  som : ∀ i, i < k → ∃ ad, (A i).a = some ad
theorem GsB.next {w w' : World} {g n k : Nat} {V : Nat → GV} {A : Nat → GA} {b : Nat → Nat} (h : GsB w g n k V A b) (hb : Below w.heap.size w w') : GsB w' g n k V A b :=
  ⟨h.room.below hb h.top, h.row.below hb h.top, fun i hi => ints_same (h.lst i hi) (fun e => hb.block _ (h.lay i hi e).2) hb.size, fun i hi e => ⟨(h.lay i hi e).1, Nat.lt_of_lt_of_le (h.lay i hi e).2 hb.size⟩, h.one, Nat.lt_of_lt_of_le h.top hb.size, h.som⟩
theorem GsB.more {w : World} {g n k q lo : Nat} {V : Nat → GV} {A : Nat → GA} {b : Nat → Nat} (h : GsB w g n k V A b) (hk : k < n) (hlo : ∀ i, i < k → (V i).n ≠ 0 → b i < lo) (hgl : g < lo) (hi : IntS w lo w.heap.size (some ⟨q, 0, none⟩) (V k).n (V k).x) :
    GsB (w.setCell ⟨g, k, none⟩ (.slice (some ⟨q, 0, none⟩) (V k).n (V k).n)) g n (k + 1) V (fun i => if i = k then ⟨some ⟨q, 0, none⟩, (V k).n⟩ else A i) (fun i => if i = k then q else b i) := by
  have hq : (V k).n ≠ 0 → lo ≤ q ∧ q < w.heap.size := fun e => by
    rcases hi with h | ⟨g', ha, hB, hc, _⟩
    · exact absurd h e
    · simp only [Option.some.injEq, Addr.mk.injEq, and_true] at ha; subst ha; exact ⟨hB, hc⟩
  have hsame : ∀ c : Nat, c ≠ g → (w.setCell ⟨g, k, none⟩ (.slice (some ⟨q, 0, none⟩) (V k).n (V k).n)).heap[c]? = w.heap[c]? := fun c hc => Below.heap_setCell _ _ _ _ (fun e => hc e)
  refine ⟨put_room [.slice (some ⟨q, 0, none⟩) (V k).n (V k).n] w k h.room (by simp; omega), ?_, ?_, ?_, ?_, by simpa using h.top, upto_more (fun i hi => by simp only [if_neg (show ¬ i = k by omega)]; exact h.som i hi) (by simp only [if_true]; exact ⟨_, rfl⟩)⟩
  · have := (show Elems w g 0 k 1 (gsF V (fun i => if i = k then ⟨some ⟨q, 0, none⟩, (V k).n⟩ else A i)) from fun i hi j hj => by
      have e := h.row i hi j hj
      simp only [gsF] at e ⊢
      rw [e, if_neg (by omega)]).step h.room hk (vs := [.slice (some ⟨q, 0, none⟩) (V k).n (V k).n]) rfl (fun j hj => by match j, hj with | 0, _ => simp [gsF])
    simpa [put] using this
  · refine upto_more (fun i hi => ?_) ?_
    · simp only [if_neg (show ¬ i = k by omega)]
      exact ints_same (h.lst i hi) (fun e => hsame _ (by have := (h.lay i hi e).1; omega)) (by simp)
    · simp only [if_true]
      by_cases e : (V k).n = 0
      · exact Or.inl e
      · refine ints_same ?_ (fun e => hsame _ (by have := hq e; omega)) (by simp)
        rcases hi with h | ⟨g', ha, hB, hc, r⟩
        · exact absurd h e
        · simp only [Option.some.injEq, Addr.mk.injEq, and_true] at ha; subst ha; exact Or.inr ⟨q, rfl, Nat.le_refl _, by omega, r⟩
  · refine upto_more (fun i hi e => ?_) (fun e => ?_)
    · simp only [if_neg (show ¬ i = k by omega)]
      have := h.lay i hi e
      exact ⟨this.1, by simpa using this.2⟩
    · simp only [if_true]
      have := hq e
      exact ⟨by omega, by simpa using this.2⟩
  · intro i j hij hj e f
    by_cases ej : j = k
    · subst ej
      simp only [if_true, if_neg (show ¬ i = j by omega)]
      have := hlo i hij e
      have := hq f
      omega
    · simp only [if_neg ej, if_neg (show ¬ i = k by omega)]
      exact h.one i j hij (by omega) e f
def GroupsPost (n : Nat) (V : Nat → GV) (w : World) (r : Ending) (w' : World) : Prop :=
  ∃ A b, (∀ i, i < n → ∃ ad, (A i).a = some ad) ∧ r = .returned (.slice (some ⟨w.heap.size, 0, none⟩) n n) ∧ GsD w' (some ⟨w.heap.size, 0, none⟩) w.heap.size w.heap.size w'.heap.size n V A b ∧ Below w.heap.size w w'

set_option maxRecDepth 100000 in
set_option maxHeartbeats 1000000 in
theorem toGroupS_any (a : Option Addr) (n cap : Nat) (V : Nat → GV) (A : Nat → GA) (w : World) (hn : n ≤ 1048576) (hz : ∀ i, i < n → (V i).n ≤ 1048576) (hs : GsS w a n V A) :
    Calls Try.prog 47 #[.slice a n cap] w (GroupsPost n V w) := by
  have HS : Hid ((∀ i, i < n → (V i).n ≤ 1048576) ∧ GsS w a n V A) := ⟨hz, hs⟩
  clear hz hs
  obtain ⟨i0, hi, hz0, hz1, hz2⟩ := info_parts info_group
  go_enter Try.func47, Try.ntmps47
  go_wp2_with (at_make; refine wpList_make_full _ rfl (.tmp 6) (.tmp 6) 38 rfl w.heap.size 25 i0 (.agg #[.slice none 0 0]) 1 Try.underlying38 hi hz0 hz1 .i64 .i64 _ _ n rfl rfl rfl rfl (by rw [hz2]; omega) (by unfold maxLen; omega) (Nat.le_refl _) ?_; intro w1 hown hgrow)
  have hR := room_made hown
  have hB : Below w.heap.size w w1 := (Below.refl _ _).grown hgrow (Nat.le_refl _) (fun k hk => by cases hk)
  have hG : w.heap.size < w1.heap.size := by
    obtain ⟨_, h | ⟨g', cap', cur, hv, hb, hh, _⟩⟩ := hown
    · exact absurd h.1 (by simp)
    · simp only [Value.slice.injEq, Option.some.injEq, Addr.mk.injEq, and_true, true_and] at hv
      obtain ⟨rfl, rfl⟩ := hv
      rcases Nat.lt_or_ge w.heap.size w1.heap.size with h | h
      · exact h
      · rw [Array.getElem?_eq_none h] at hh; cases hh
  have HI : Hid (GsB w1 w.heap.size n 0 V A (fun _ => 0) ∧ Below w.heap.size w w1) := ⟨⟨hR, fun i hi => absurd hi (by omega), fun i hi => absurd hi (by omega), fun i hi => absurd hi (by omega), fun i j _ hj => absurd hj (by omega), hG, fun i hi => absurd hi (by omega)⟩, hB⟩
  clear hown hgrow hi hz0 hz1 hz2 hR hB hG
  go_loopw [4] (fun i wr => ∃ (k : Nat) (A' : Nat → GA) (b : Nat → Nat), k ≤ n ∧ i = .int .i64 k ∧ GsB wr w.heap.size n k V A' b ∧ Below w.heap.size w wr) (fun i _ => n - (intOf i).toNat)
  case atStart => exact ⟨0, A, fun _ => 0, Nat.zero_le _, rfl, HI.out⟩
  case round =>
    obtain ⟨k, A', b, hk, rfl, hG, hBr⟩ := hrel
    clear HI
    have HH : Hid (GsB wr w.heap.size n k V A' b ∧ Below w.heap.size w wr) := ⟨hG, hBr⟩
    clear hG
    by_cases hlt : k < n
    · have hsr := HS.out.2.next hBr
      have hat := hsr.2 k hlt
      rcases hsr.1 with h | ⟨bb, off, rfl, hbs, hE⟩
      · omega
      have c0 := gs_cell hE hlt
      have hlt' : (k : Int) < (n : Int) := by omega
      have HT : Hid (Sl wr (A k).a (V k).n 1 (intF (V k).x) ∧ (V k).n ≤ 1048576) := ⟨hat, HS.out.1 k hlt⟩
      clear hsr hE hat hBr
      go_wp2_with fail
      refine (toGroup_any _ _ _ (V k).x _ HT.out.2 HT.out.1).mono ?_
      rintro e w2 ⟨⟨q, rfl, hi⟩, hb2⟩
      have h2 := HH.out.1.next hb2
      have HF : Hid (GsB (w2.setCell ⟨w.heap.size, k, none⟩ (.slice (some ⟨q, 0, none⟩) (V k).n (V k).n)) w.heap.size n (k + 1) V (fun i => if i = k then ⟨some ⟨q, 0, none⟩, (V k).n⟩ else A' i) (fun i => if i = k then q else b i) ∧ Below w.heap.size w (w2.setCell ⟨w.heap.size, k, none⟩ (.slice (some ⟨q, 0, none⟩) (V k).n (V k).n))) :=
        ⟨h2.more hlt (fun i hi e => (HH.out.1.lay i hi e).2) HH.out.1.top hi, (HH.out.2.trans (hb2.mono HH.out.2.size)).setCell (p := ⟨w.heap.size, k, none⟩) (Nat.le_refl _) _⟩
      obtain ⟨⟨x0, r0⟩, f0⟩ := h2.room k (by omega)
      have z2 := h2.top
      clear h2 hi hb2 HH c0
      go_wp2
      go_roundw
      case rel => exact ⟨k + 1, _, _, by omega, by go_num, HF.out⟩
      case measure => simp [intOf]; omega
    · have hkn : k = n := by omega
      subst hkn
      have HP : Hid (GroupsPost k V w (.returned (.slice (some ⟨w.heap.size, 0, none⟩) k k)) wr) := by
        obtain ⟨h1, h2⟩ := HH.out
        refine ⟨A', b, h1.som, rfl, ⟨Or.inr ⟨rfl, Nat.le_refl _, h1.top⟩, fun i hi => ?_, h1.lst, fun i hi e => ⟨by have := (h1.lay i hi e).1; omega, (h1.lay i hi e).2, by have := (h1.lay i hi e).1; omega⟩, fun i j hij hj e f => by have := h1.one i j hij hj e f; omega, Nat.le_refl _⟩, h2⟩
        have := gs_cell h1.row hi
        simpa using this
      clear HH hBr
      go_wp2
      go_ret
      exact HP.out

set_option maxRecDepth 100000 in
set_option maxHeartbeats 1000000 in
theorem eqGroupS_same (a a' : Option Addr) (n cap cap' : Nat) (V : Nat → GV) (A A' : Nat → GA) (w : World) (hn : n ≤ 1048576) (hz : ∀ i, i < n → (V i).n ≤ 1048576) (hs : GsS w a n V A) (hs' : GsS w a' n V A') :
    Calls Try.prog 48 #[.slice a n cap, .slice a' n cap'] w fun r w' => r = .returned (.bool true) ∧ Below w.heap.size w w' := by
  have HS : Hid (GsS w a n V A ∧ GsS w a' n V A' ∧ ∀ i, i < n → (V i).n ≤ 1048576) := ⟨hs, hs', hz⟩
  clear hs hs' hz
  go_enter Try.func48, Try.ntmps48
  go_wp2
  go_loopw [5] (fun i wr => ∃ k : Nat, k ≤ n ∧ i = .int .i64 k ∧ Below w.heap.size w wr) (fun i _ => n - (intOf i).toNat)
  case atStart => exact ⟨0, Nat.zero_le _, rfl, Below.refl _ _⟩
  case round =>
    obtain ⟨k, hk, rfl, hBr⟩ := hrel
    by_cases hlt : k < n
    · have h1 := (HS.out.1.next hBr).2 k hlt
      have h2 := (HS.out.2.1.next hBr).2 k hlt
      rcases (HS.out.1.next hBr).1 with h | ⟨b, off, rfl, hbs, hE⟩
      · omega
      rcases (HS.out.2.1.next hBr).1 with h | ⟨b', off', rfl, hbs', hE'⟩
      · omega
      have hlt' : (k : Int) < (n : Int) := by omega
      have HE : Hid (wr.cell? ⟨b, off + k, none⟩ = some (.slice (A k).a (V k).n (A k).c) ∧ wr.cell? ⟨b', off' + k, none⟩ = some (.slice (A' k).a (V k).n (A' k).c)) := ⟨gs_cell hE hlt, gs_cell hE' hlt⟩
      have HT : Hid (Sl wr.drew (A k).a (V k).n 1 (intF (V k).x) ∧ Sl wr.drew (A' k).a (V k).n 1 (intF (V k).x) ∧ (V k).n ≤ 1048576 ∧ Below w.heap.size w wr.drew) := ⟨h1.kept (below_drew _), h2.kept (below_drew _), HS.out.2.2 k hlt, below_next hBr (below_drew _)⟩
      clear h1 h2 hE hE' hBr
      go_upto_region 6 with fail
      refine wp_region_noPanic ?_
      refine wp_region_held_drew (S := fun W => W.cell? ⟨b, off + k, none⟩ = some (.slice (A k).a (V k).n (A k).c) ∧ W.cell? ⟨b', off' + k, none⟩ = some (.slice (A' k).a (V k).n (A' k).c) ∧ Below wr.heap.size wr W) (by kernel_rfl) ⟨HE.out.1, HE.out.2, below_drew _⟩ (fun hHeld => ?_)
      refine take_v (v := ?_) 0 ⟨some 17, Op.move (Operand.tmp 0), _, _, _, none⟩ rfl (fun _ _ _ h => h) ?_ hHeld ?_
      rotate_left
      · (intro W _; go_simp <;> (try with_reducible rfl))
      refine take_v (v := ?_) 1 ⟨some 18, Op.move (Operand.tmp 5), _, _, _, none⟩ rfl (fun _ _ _ h => h) ?_ hHeld ?_
      rotate_left
      · (intro W _; go_simp <;> (try with_reducible rfl))
      refine take_v (v := ?_) 2 ⟨some 19, Op.indexAddr 38 (Operand.tmp 17) (Operand.tmp 18), _, _, _, none⟩ rfl (fun _ _ _ h => h) ?_ hHeld ?_
      rotate_left
      · (intro W _; go_simp <;> (try with_reducible rfl))
      refine take_v (v := ?_) 3 ⟨some 20, Op.load 25 (Operand.tmp 19), _, _, _, none⟩ rfl (fun _ _ _ h => h) ?_ hHeld ?_
      rotate_left
      · (intro W hSW; obtain ⟨sw0, sw1, sw2⟩ := hSW; go_simp <;> (try with_reducible rfl))
      refine take_v (v := ?_) 4 ⟨some 21, Op.move (Operand.tmp 1), _, _, _, none⟩ rfl (fun _ _ _ h => h) ?_ hHeld ?_
      rotate_left
      · (intro W _; go_simp <;> (try with_reducible rfl))
      refine take_v (v := ?_) 5 ⟨some 22, Op.move (Operand.tmp 5), _, _, _, none⟩ rfl (fun _ _ _ h => h) ?_ hHeld ?_
      rotate_left
      · (intro W _; go_simp <;> (try with_reducible rfl))
      refine take_v (v := ?_) 6 ⟨some 23, Op.indexAddr 38 (Operand.tmp 21) (Operand.tmp 22), _, _, _, none⟩ rfl (fun _ _ _ h => h) ?_ hHeld ?_
      rotate_left
      · (intro W _; go_simp <;> (try with_reducible rfl))
      refine take_v (v := ?_) 7 ⟨some 24, Op.load 25 (Operand.tmp 23), _, _, _, none⟩ rfl (fun _ _ _ h => h) ?_ hHeld ?_
      rotate_left
      · (intro W hSW; obtain ⟨sw0, sw1, sw2⟩ := hSW; go_simp <;> (try with_reducible rfl))
      refine ready_call 8 ⟨some 25, Op.call { callee := Callee.value (Operand.func 40), args := #[Operand.tmp 20, Operand.tmp 24], argTypes := #[25, 25] }, _, _, _, none⟩ (by kernel_rfl) rfl (by kernel_rfl) (fun KC hK => ?_)
      go_wp2_with fail
      refine (eqGroup_same _ _ _ _ _ (V k).x _ HT.out.2.2.1 HT.out.1 HT.out.2.1).mono ?_
      rintro r w2 ⟨rfl, hb⟩
      have H2 : Hid (Below w.heap.size w w2) := below_next HT.out.2.2.2 hb
      have hbw : Below wr.heap.size wr w2 := (below_drew wr).trans hb
      refine hK.out _ _ ⟨(hbw.cell (p := ⟨b, off + k, none⟩) hbs).trans HE.out.1, (hbw.cell (p := ⟨b', off' + k, none⟩) hbs').trans HE.out.2, hbw⟩ (fun hHeld => ?_)
      clear hK KC
      refine take_v (v := ?_) 9 ⟨some 26, Op.unOp UnOp.not 4 (Operand.tmp 25), _, _, _, none⟩ rfl (fun _ _ _ h => h) ?_ hHeld ?_
      rotate_left
      · (intro W _; go_simp <;> (try with_reducible rfl))
      refine wpAnyH_done (by kernel_rfl) ?_ _
      refine NoPanic.normal ?_
      clear hHeld hb hbw
      go_wp2
      go_roundw
      case rel => exact ⟨k + 1, by omega, by go_num, H2.out⟩
      case measure => simp [intOf]; omega
    · have hkn : k = n := by omega
      subst hkn
      have HB : Hid (Below w.heap.size w wr) := hBr
      clear hBr
      go_wp2
      go_ret
      exact ⟨rfl, HB.out⟩

theorem Turned.wide0 {B C : Nat} {w w' : World} (h : Turned 0 0 w w') : Turned B C w w' := ⟨h.1, h.2.1, h.2.2.1, h.2.2.2.1, fun k hk _ => h.2.2.2.2 k hk (Or.inr (Nat.zero_le _))⟩
/-- How many nodes the first k have together. -/
def sumN (V : Nat → GV) : Nat → Nat
  | 0 => 0
  | k + 1 => sumN V k + (V k).n
theorem sumN_le {V : Nat → GV} {n : Nat} (h : ∀ i, i < n → (V i).n ≤ 1048576) : ∀ {k : Nat}, k ≤ n → sumN V k ≤ 1048576 * k
  | 0, _ => Nat.le_refl _
  | k + 1, hk => by
    have h1 := sumN_le h (k := k) (by omega)
    have h2 := h k (by omega)
    simp only [sumN]
    omega
/-- The first k are marked. -/
def mkV (V : Nat → GV) (q : Int) (k i : Nat) : GV := if i < k then ⟨(V i).n, fun j => q + (sumN V i : Nat) + (j : Int)⟩ else V i
theorem mkV_n (V : Nat → GV) (q : Int) (k i : Nat) : (mkV V q k i).n = (V i).n := by unfold mkV; split <;> rfl

set_option maxRecDepth 100000 in
set_option maxHeartbeats 2000000 in
theorem markGroupS_any (a : Option Addr) (g lo hi n cap : Nat) (V : Nat → GV) (A : Nat → GA) (b : Nat → Nat) (q : Int) (w : World) (hn : n ≤ 1048576) (h0 : 0 ≤ q) (h1 : q ≤ 1) (hz : ∀ i, i < n → (V i).n ≤ 1048576) (hs : GsD w a g lo hi n V A b) (hlh : lo ≤ hi) :
    Calls Try.prog 49 #[.slice a n cap, .int .i64 q] w fun r w' => r = .returned (.int .i64 (q + (sumN V n : Nat))) ∧ GsD w' a g lo hi n (mkV V q n) A b ∧ Turned lo hi w w' := by
  have HZ : Hid (∀ i, i < n → (V i).n ≤ 1048576) := hz
  clear hz
  go_enter Try.func49, Try.ntmps49
  go_wp2
  go_loopw [5, 1] (fun i q' wr => ∃ k : Nat, k ≤ n ∧ i = .int .i64 k ∧ q' = .int .i64 (q + (sumN V k : Nat)) ∧ GsD wr a g lo hi n (mkV V q k) A b ∧ Turned lo hi w wr) (fun i _ _ => n - (intOf i).toNat)
  case atStart => exact ⟨0, Nat.zero_le _, rfl, by simp [sumN], hs.congr (fun i hi => by simp [mkV]), Turned.refl _ _ _⟩
  case round =>
    obtain ⟨k, hk, rfl, rfl, hD, ht⟩ := hrel
    clear hs
    have hsum := sumN_le HZ.out hk
    have HH : Hid (GsD wr a g lo hi n (mkV V q k) A b ∧ Turned lo hi w wr) := ⟨hD, ht⟩
    clear ht
    by_cases hlt : k < n
    · have hlt' : (k : Int) < (n : Int) := by omega
      rcases hD.at0 with e | ⟨rfl, hg1, hg2⟩
      · omega
      have c0 := hD.row k hlt
      rw [mkV_n] at c0
      have z0 : g < wr.heap.size := by have := hD.top; omega
      have hq1 : 0 ≤ q + (sumN V k : Nat) := by omega
      have hq2 : q + (sumN V k : Nat) ≤ 1099511627776 := by omega
      have HL : Hid (IntS wr (b k) (b k + 1) (A k).a (V k).n (V k).x) := Hid.intro (by have := hD.lst k hlt; simpa [mkV] using this)
      have HN : Hid (sumN V (k + 1) = sumN V k + (V k).n) := rfl
      have HQ : Hid (∀ x : Int, x = q + (sumN V k : Nat) → x = q + (sumN V k : Nat)) := fun _ h => h
      clear hD
      by_cases hne : (V k).n = 0
      · have HE : Hid (GsD wr (some ⟨g, 0, none⟩) g lo hi n (mkV V q (k + 1)) A b) := HH.out.1.congr (fun i hi => by
          refine ⟨by rw [mkV_n, mkV_n], fun j hj => ?_⟩
          rw [mkV_n] at hj
          by_cases e : i = k
          · subst e; omega
          · by_cases e2 : i < k
            · simp [mkV, e2, show i < k + 1 by omega]
            · simp [mkV, e2, show ¬ i < k + 1 by omega])
        have HX : Hid (IntS wr 0 0 (A k).a (V k).n (V k).x) := Or.inl hne
        have hv0 : (V k).n ≤ 1048576 := HZ.out k hlt
        clear hne
        go_wp2_with fail
        refine (markIntS_any _ _ _ (V k).x _ 0 0 _ hv0 hq1 hq2 HX.out).mono ?_
        rintro r w2 ⟨rfl, _, ht2⟩
        have HF : Hid (GsD w2 (some ⟨g, 0, none⟩) g lo hi n (mkV V q (k + 1)) A b ∧ Turned lo hi w w2) := ⟨HE.out.turn ht2 (Or.inr (Nat.zero_le _)), HH.out.2.trans (ht2.wide0)⟩
        clear ht2 HE HX HL HH c0
        generalize sumN V k = s at *
        go_wp2
        go_roundw
        case rel => exact ⟨k + 1, by omega, by go_num, by rw [HN.out]; congr 1; omega, HF.out⟩
        case measure => simp [intOf]; omega
      · have hL := HH.out.1.lay k hlt (by rw [mkV_n]; exact hne)
        have HNE : Hid ((V k).n ≠ 0) := hne
        clear hne
        go_wp2_with fail
        refine (markIntS_any _ _ _ (V k).x _ _ _ _ (HZ.out k hlt) hq1 hq2 HL.out).mono ?_
        rintro r w2 ⟨rfl, hi2, ht2⟩
        have HF : Hid (GsD w2 (some ⟨g, 0, none⟩) g lo hi n (mkV V q (k + 1)) A b ∧ Turned lo hi w w2) := by
          refine ⟨(HH.out.1.one_turn (k := k) (Y := fun j => q + (sumN V k : Nat) + (j : Int)) hlt (by rw [mkV_n]; exact HNE.out) ht2 (by rw [mkV_n]; exact hi2)).congr (fun i hi => ?_), HH.out.2.trans (ht2.wide (by omega) (by omega))⟩
          by_cases e : i = k
          · subst e
            simp only [if_true]
            exact ⟨by rw [mkV_n, mkV_n], fun j hj => by simp [mkV]⟩
          · simp only [if_neg e]
            refine ⟨by rw [mkV_n, mkV_n], fun j hj => ?_⟩
            by_cases e2 : i < k
            · simp [mkV, e2, show i < k + 1 by omega]
            · simp [mkV, e2, show ¬ i < k + 1 by omega]
        clear hi2 ht2 HL HH c0 hL
        generalize sumN V k = s at *
        go_wp2
        go_roundw
        case rel => exact ⟨k + 1, by omega, by go_num, by rw [HN.out]; congr 1; omega, HF.out⟩
        case measure => simp [intOf]; omega
    · have hkn : k = n := by omega
      subst hkn
      clear hD
      go_wp2
      go_ret
      exact ⟨rfl, HH.out⟩

set_option maxRecDepth 100000 in
set_option maxHeartbeats 2000000 in
theorem heldGroupS_any (a : Option Addr) (n cap : Nat) (V : Nat → GV) (A : Nat → GA) (q : Int) (w : World) (hn : n ≤ 1048576) (h0 : 0 ≤ q) (h1 : q ≤ 1) (hz : ∀ i, i < n → (V i).n ≤ 1048576) (hs : GsS w a n (mkV V q n) A) :
    Calls Try.prog 50 #[.slice a n cap, .int .i64 q] w fun r w' => r = .returned (.int .i64 (q + (sumN V n : Nat))) ∧ w' = w := by
  have HZ : Hid ((∀ i, i < n → (V i).n ≤ 1048576) ∧ GsS w a n (mkV V q n) A) := ⟨hz, hs⟩
  clear hz hs
  go_enter Try.func50, Try.ntmps50
  go_wp2
  go_loop [5, 1] (fun i q' => ∃ k : Nat, k ≤ n ∧ i = .int .i64 k ∧ q' = .int .i64 (q + (sumN V k : Nat))) (fun i _ => n - (intOf i).toNat)
  case atStart => exact ⟨0, Nat.zero_le _, rfl, by simp [sumN]⟩
  case round =>
    obtain ⟨k, hk, rfl, rfl⟩ := hrel
    have hsum := sumN_le HZ.out.1 hk
    by_cases hlt : k < n
    · have hlt' : (k : Int) < (n : Int) := by omega
      rcases HZ.out.2.1 with e | ⟨b, off, rfl, hbs, hE⟩
      · omega
      have c0 := gs_cell hE hlt
      rw [mkV_n] at c0
      have hq1 : 0 ≤ q + (sumN V k : Nat) := by omega
      have hq2 : q + (sumN V k : Nat) ≤ 1099511627776 := by omega
      have HL : Hid (Sl w (A k).a (V k).n 1 (intF (fun j => q + (sumN V k : Nat) + (j : Int)))) := Hid.intro (by have := HZ.out.2.2 k hlt; simpa [mkV, hlt] using this)
      have HN : Hid (sumN V (k + 1) = sumN V k + (V k).n) := rfl
      have hq3 : ¬ q + (sumN V k : Nat) + ((V k).n : Int) < 0 := by omega
      have hvn := HZ.out.1 k hlt
      clear hE
      generalize sumN V k = s at *
      go_wp2_with (go_at_call 79; refine (heldIntS_any _ _ _ (q + (s : Nat)) _ hvn hq1 hq2 HL.out).mono ?_; rintro e w' ⟨rfl, rfl⟩)
      go_round
      case rel => exact ⟨k + 1, by omega, by go_num, by rw [HN.out]; congr 1; omega⟩
      case measure => simp [intOf]; omega
    · have hkn : k = n := by omega
      subst hkn
      go_wp2
      go_ret
      exact ⟨rfl, rfl⟩
end Go.Proofs.Ytalnmollgielcaa
