/- Fences: spec.l12Step, whole: a step on a fence of its own leaves what stF says. -/
import Derived.Test.YtcbdlalpnlahcaaMgD
import Derived.Test.YtcbdlalpnlahcaaFeTe
import Derived.Test.YtcbdlalpnlahcaaFeTl
namespace Go.Proofs.Ytcbdlalpnlahcaa
open Go.RowKit
set_option linter.unusedVariables false
set_option linter.unusedSimpArgs false

/-- What an inner call leaves, behind boxes of the step's own, and the answer's cell written. -/
theorem StX.over {lo : Nat} {S : Nat → Prop} {A : Option (Sh.T shFence)} {w w0 w1 : World} {e5 d5 : Int} {a5 a6 : Option Addr} {n5 c5 n6 c6 : Nat} (hb : Below w.heap.size w w0) (hz : w.heap.size + 1 + 1 < w0.heap.size) (hS : ∀ k, S k → k < w.heap.size) (h : StX lo S A w0 (.returned (.tuple #[.agg #[.int .i64 e5, .int .i64 d5, .slice a5 n5 c5, .slice a6 n6 c6], .bool A.isSome])) w1) :
    StX lo S A w (.returned (.tuple #[.agg #[.int .i64 e5, .int .i64 d5, .slice a5 n5 c5, .slice a6 n6 c6], .bool A.isSome])) ((((w1.setCell ⟨w.heap.size + 1 + 1, 0, none⟩ (.int .i64 e5)).setCell ⟨w.heap.size + 1 + 1, 1, none⟩ (.int .i64 d5)).setCell ⟨w.heap.size + 1 + 1, 2, none⟩ (.slice a5 n5 c5)).setCell ⟨w.heap.size + 1 + 1, 3, none⟩ (.slice a6 n6 c6)) := by
  obtain ⟨ht, cs, e, hl, hy⟩ := h
  have hs := set4 w1 (w.heap.size + 1 + 1) (.int .i64 e5) (.int .i64 d5) (.slice a5 n5 c5) (.slice a6 n6 c6)
  have h1 := ht.size
  have h2 := hs.size
  have ec : cs = [.int .i64 e5, .int .i64 d5, .slice a5 n5 c5, .slice a6 n6 c6] := by
    simp only [Ending.returned.injEq, Value.tuple.injEq, Array.mk.injEq, List.cons.injEq, Value.agg.injEq, and_true, true_and] at e
    exact e.symm
  subst ec
  refine ⟨((TurnS.of_below hb).trans ht).new hs (by omega), [.int .i64 e5, .int .i64 d5, .slice a5 n5 c5, .slice a6 n6 c6], rfl, ⟨_, _, _, _, _, _, _, _, rfl⟩, fun y hyA => ?_⟩
  have hO := hy y hyA
  refine (hO.turn hs (fun k hk q => ?_)).mono (fun k hk => ?_)
  · have q : k = w.heap.size + 1 + 1 := q
    rcases hk with r | r
    · have := hS k r; omega
    · simp only [Btw] at r; omega
  · rcases hk with r | r
    · exact Or.inl r
    · exact Or.inr (by have hb2 := hb.size; simp only [Btw] at r ⊢; omega)

set_option maxRecDepth 100000 in
set_option maxHeartbeats 4000000 in
theorem l12Step_v (lo : Nat) (S : Nat → Prop) (cs : List Value) (ep du : Int) (ms : List (Sh.T shMember)) (en : List (Sh.T .int)) (b n : Int) (w : World) (hG : goodF ep du ms en) (hO : OwnX w lo tyFence cs (ep, du, ms, en, ()) S) (hS : ∀ k, S k → k < w.heap.size) :
    Calls Try.prog 41 #[.agg cs.toArray, .agg #[.int .i64 4, .int .i64 b, .int .i64 n]] w (StX lo S (advF ep du ms en) w) := by
  obtain ⟨v1, S1, v2, S2, rfl, o1, o2, e1, e2, d12⟩ := ownx_Fence hO
  have HO : Hid (OwnX w lo tyFence [.int .i64 ep, .int .i64 du, v1, v2] (ep, du, ms, en, ()) S ∧ (∀ k, S k → k < w.heap.size) ∧ goodF ep du ms en) := ⟨hO, hS, hG⟩
  obtain ⟨a1, k1, hv1⟩ := o1.vform
  have hv1 : v1 = .slice a1 (List.length (α := Sh.T shMember) ms) k1 := hv1
  subst hv1
  obtain ⟨a2, k2, hv2⟩ := o2.vform
  have hv2 : v2 = .slice a2 (List.length (α := Sh.T .int) en) k2 := hv2
  subst hv2
  clear o1 o2 e1 e2 d12 hO hS hG
  obtain ⟨w0, hw0⟩ : ∃ x, x = ((w.alloc (.cells #[.int .i64 ep, .int .i64 du, .slice a1 ms.length k1, .slice a2 en.length k2] 29)).alloc (.cells #[.int .i64 4, .int .i64 b, .int .i64 n] 40)).alloc (.cells #[.int .i64 0, .int .i64 0, .slice none 0 0, .slice none 0 0] 29) := ⟨_, rfl⟩
  have HB0 : Hid (Bx w0 w.heap.size [.int .i64 ep, .int .i64 du, .slice a1 ms.length k1, .slice a2 en.length k2] ∧ Bx w0 (w.heap.size + 1) [.int .i64 4, .int .i64 b, .int .i64 n] ∧ Bx w0 (w.heap.size + 1 + 1) [.int .i64 0, .int .i64 0, .slice none 0 0, .slice none 0 0] ∧ Below w.heap.size w w0) := ⟨hw0 ▸ ((Bx.new w [_, _, _, _] _).alloc _).alloc _, hw0 ▸ (Bx.newAt (by simp)).alloc _, hw0 ▸ Bx.newAt (by simp), hw0 ▸ (((Below.refl _ _).alloc (Nat.le_refl _) _).alloc (by simp) _).alloc (by simp; omega) _⟩
  have s0 := (HB0.out.1).cell 0 rfl; have s1 := (HB0.out.1).cell 1 rfl; have s2 := (HB0.out.1).cell 2 rfl; have s3 := (HB0.out.1).cell 3 rfl; have sz := (HB0.out.1).2
  have t0 := (HB0.out.2.1).cell 0 rfl; have t1 := (HB0.out.2.1).cell 1 rfl; have t2 := (HB0.out.2.1).cell 2 rfl; have tz := (HB0.out.2.1).2
  go_enter Try.func41, Try.ntmps41
  go_upto_region 1 with fail
  rw [← hw0]
  clear hw0
  go_wp2_with fail
  refine (l12Advance_n lo S [.int .i64 ep, .int .i64 du, .slice a1 ms.length k1, .slice a2 en.length k2] ep du ms en _ HO.out.2.2 (HO.out.1.next HB0.out.2.2.2) (fun k hk => Nat.lt_of_lt_of_le (HO.out.2.1 k hk) HB0.out.2.2.2.size)).mono ?_
  intro r w1 hr
  clear s0 s1 s2 s3 sz t0 t1 t2 tz
  obtain ⟨cs9, hre, hl9⟩ : ∃ cs9 : List Value, r = .returned (.tuple #[.agg cs9.toArray, .bool (advF ep du ms en).isSome]) ∧ Fe4 cs9 := by
    obtain ⟨_, cs9, q, q2, _⟩ := hr; exact ⟨cs9, q, q2⟩
  obtain ⟨e5, d5, a5, n5, c5, a6, n6, c6, hu⟩ := hl9
  subst hu
  subst hre
  have HR : Hid (StX lo S (advF ep du ms en) w0 (.returned (.tuple #[.agg #[.int .i64 e5, .int .i64 d5, .slice a5 n5 c5, .slice a6 n6 c6], .bool (advF ep du ms en).isSome])) w1) := hr
  have HN : Hid (StX lo S (advF ep du ms en) w (.returned (.tuple #[.agg #[.int .i64 e5, .int .i64 d5, .slice a5 n5 c5, .slice a6 n6 c6], .bool (advF ep du ms en).isSome])) ((((w1.setCell ⟨w.heap.size + 1 + 1, 0, none⟩ (.int .i64 e5)).setCell ⟨w.heap.size + 1 + 1, 1, none⟩ (.int .i64 d5)).setCell ⟨w.heap.size + 1 + 1, 2, none⟩ (.slice a5 n5 c5)).setCell ⟨w.heap.size + 1 + 1, 3, none⟩ (.slice a6 n6 c6))) := Hid.intro (StX.over HB0.out.2.2.2 HB0.out.2.2.1.2 HO.out.2.1 HR.out)
  have HX : Hid (Bx w1 (w.heap.size + 1 + 1) [.int .i64 0, .int .i64 0, .slice none 0 0, .slice none 0 0]) := Hid.intro (HB0.out.2.2.1.turnS HR.out.1 (fun q => by have := HO.out.2.1 _ q; omega))
  obtain ⟨B, hB⟩ : ∃ B, B = (advF ep du ms en).isSome := ⟨_, rfl⟩
  rw [← hB] at HN ⊢
  clear hr hB HR
  have r0 := (HX.out).cell 0 rfl; have r1 := (HX.out).cell 1 rfl; have r2 := (HX.out).cell 2 rfl; have r3 := (HX.out).cell 3 rfl; have rz := (HX.out).2
  have rf0 := HX.out.frz 0 (by simp)
  have rf1 := HX.out.frz 1 (by simp)
  have rf2 := HX.out.frz 2 (by simp)
  have rf3 := HX.out.frz 3 (by simp)
  go_wp2
  exact bodyPost_ret (v := .tuple #[.agg #[.int .i64 e5, .int .i64 d5, .slice a5 n5 c5, .slice a6 n6 c6], .bool B]) (by simp [results, Try.results41, go_sem, *]) rfl HN.out

set_option maxRecDepth 100000 in
set_option maxHeartbeats 4000000 in
theorem l12Step_m (lo : Nat) (S : Nat → Prop) (cs : List Value) (ep du : Int) (ms : List (Sh.T shMember)) (en : List (Sh.T .int)) (a b n : Int) (w : World) (hG : goodF ep du ms en) (hO : OwnX w lo tyFence cs (ep, du, ms, en, ()) S) (hS : ∀ k, S k → k < w.heap.size) (ha : a ≠ 4) (hf : ms.findIdx? (fun m => decide (mid m = b)) = none) :
    Calls Try.prog 41 #[.agg cs.toArray, .agg #[.int .i64 a, .int .i64 b, .int .i64 n]] w (StX lo S none w) := by
  have hl := hO.lies
  obtain ⟨v1, S1, v2, S2, rfl, o1, o2, e1, e2, d12⟩ := ownx_Fence hO
  obtain ⟨a1, k1, hv1⟩ := o1.vform
  have hv1 : v1 = .slice a1 (List.length (α := Sh.T shMember) ms) k1 := hv1
  subst hv1
  obtain ⟨a2, k2, hv2⟩ := o2.vform
  have hv2 : v2 = .slice a2 (List.length (α := Sh.T .int) en) k2 := hv2
  subst hv2
  have HLW : Hid (Lies w shFence [.int .i64 ep, .int .i64 du, .slice a1 ms.length k1, .slice a2 en.length k2] (ep, du, ms, en, ())) := hl
  have HZ : Hid (szD shFence (ep, du, ms, en, ()) ≤ 1073741824) := Hid.intro (Nat.le_trans (good_sz hG) (by decide))
  have HAT : Hid (atM ms b = -1) := Hid.intro (atM_none hf)
  have q4 : (a == 4) = false := beq_false_of_ne ha
  clear o1 o2 e1 e2 d12 hO hS hG hf hl ha
  obtain ⟨w0, hw0⟩ : ∃ x, x = ((w.alloc (.cells #[.int .i64 ep, .int .i64 du, .slice a1 ms.length k1, .slice a2 en.length k2] 29)).alloc (.cells #[.int .i64 a, .int .i64 b, .int .i64 n] 40)).alloc (.cells #[.int .i64 0, .int .i64 0, .slice none 0 0, .slice none 0 0] 29) := ⟨_, rfl⟩
  have HB0 : Hid (Bx w0 w.heap.size [.int .i64 ep, .int .i64 du, .slice a1 ms.length k1, .slice a2 en.length k2] ∧ Bx w0 (w.heap.size + 1) [.int .i64 a, .int .i64 b, .int .i64 n] ∧ Bx w0 (w.heap.size + 1 + 1) [.int .i64 0, .int .i64 0, .slice none 0 0, .slice none 0 0] ∧ Below w.heap.size w w0) := ⟨hw0 ▸ ((Bx.new w [_, _, _, _] _).alloc _).alloc _, hw0 ▸ (Bx.newAt (by simp)).alloc _, hw0 ▸ Bx.newAt (by simp), hw0 ▸ (((Below.refl _ _).alloc (Nat.le_refl _) _).alloc (by simp) _).alloc (by simp; omega) _⟩
  have s0 := (HB0.out.1).cell 0 rfl; have s1 := (HB0.out.1).cell 1 rfl; have s2 := (HB0.out.1).cell 2 rfl; have s3 := (HB0.out.1).cell 3 rfl; have sz := (HB0.out.1).2
  have t0 := (HB0.out.2.1).cell 0 rfl; have t1 := (HB0.out.2.1).cell 1 rfl; have t2 := (HB0.out.2.1).cell 2 rfl; have tz := (HB0.out.2.1).2
  go_enter Try.func41, Try.ntmps41
  go_upto_region 1 with fail
  rw [← hw0]
  clear hw0
  go_wp2_with fail
  refine (l12At_n [.int .i64 ep, .int .i64 du, .slice a1 ms.length k1, .slice a2 en.length k2] ep du ms en b _ HZ.out (HLW.out.next HB0.out.2.2.2)).mono ?_
  rintro r w1 ⟨rfl, hb1⟩
  rw [HAT.out]
  clear s0 s1 s2 s3 sz t0 t1 t2 tz
  have HB1 : Hid (Bx w1 w.heap.size [.int .i64 ep, .int .i64 du, .slice a1 ms.length k1, .slice a2 en.length k2] ∧ Bx w1 (w.heap.size + 1 + 1) [.int .i64 0, .int .i64 0, .slice none 0 0, .slice none 0 0] ∧ Below w.heap.size w w1) := ⟨HB0.out.1.next hb1, HB0.out.2.2.1.next hb1, below_next HB0.out.2.2.2 hb1⟩
  clear hb1 HB0
  have s0 := (HB1.out.1).cell 0 rfl; have s1 := (HB1.out.1).cell 1 rfl; have s2 := (HB1.out.1).cell 2 rfl; have s3 := (HB1.out.1).cell 3 rfl; have sz := (HB1.out.1).2
  have r0 := (HB1.out.2.1).cell 0 rfl; have r1 := (HB1.out.2.1).cell 1 rfl; have r2 := (HB1.out.2.1).cell 2 rfl; have r3 := (HB1.out.2.1).cell 3 rfl; have rz := (HB1.out.2.1).2
  have rf0 := HB1.out.2.1.frz 0 (by simp)
  have rf1 := HB1.out.2.1.frz 1 (by simp)
  have rf2 := HB1.out.2.1.frz 2 (by simp)
  have rf3 := HB1.out.2.1.frz 3 (by simp)
  go_wp2
  exact bodyPost_ret (v := .tuple #[.agg #[.int .i64 ep, .int .i64 du, .slice a1 ms.length k1, .slice a2 en.length k2], .bool false]) (by simp [results, Try.results41, go_sem, *]) rfl (StX.no (cs := [.int .i64 ep, .int .i64 du, .slice a1 ms.length k1, .slice a2 en.length k2]) rfl ((TurnS.of_below HB1.out.2.2).new (set4 _ (w.heap.size + 1 + 1) _ _ _ _) (by omega)))

/-- A step on a fence of its own. -/
theorem l12Step_n (lo : Nat) (S : Nat → Prop) (cs : List Value) (ep du : Int) (ms : List (Sh.T shMember)) (en : List (Sh.T .int)) (a b n : Int) (w : World) (hG : goodF ep du ms en) (hO : OwnX w lo tyFence cs (ep, du, ms, en, ()) S) (hS : ∀ k, S k → k < w.heap.size) (hlo : lo ≤ w.heap.size) :
    Calls Try.prog 41 #[.agg cs.toArray, .agg #[.int .i64 a, .int .i64 b, .int .i64 n]] w (StX lo S (stF ep du ms en a b n) w) := by
  by_cases h4 : a = 4
  · subst h4
    have e : stF ep du ms en 4 b n = advF ep du ms en := by unfold stF; rw [if_pos rfl]
    rw [e]; exact l12Step_v lo S cs ep du ms en b n w hG hO hS
  cases hf : ms.findIdx? (fun m => decide (mid m = b)) with
  | none =>
    have e : stF ep du ms en a b n = none := by unfold stF; rw [if_neg h4, hf]
    rw [e]; exact l12Step_m lo S cs ep du ms en a b n w hG hO hS h4 hf
  | some i =>
    have hi : i < ms.length := (List.findIdx?_eq_some_iff_getElem.1 hf).1
    rw [stF_mem h4 hf hi]
    by_cases h1 : a = 1
    · subst h1; exact l12Step_b lo S cs ep du ms en b n i w hG hO hS hlo hf hi
    by_cases h2 : a = 2
    · subst h2; exact l12Step_e lo S cs ep du ms en b n i w hG hO hS hlo hf hi
    by_cases h3 : a = 3
    · subst h3; exact l12Step_a lo S cs ep du ms en b n i w hG hO hS hlo hf hi
    by_cases h5 : a = 5
    · subst h5; exact l12Step_l lo S cs ep du ms en b n i w hG hO hS hlo hf hi
    by_cases h6 : a = 6
    · subst h6; exact l12Step_j lo S cs ep du ms en b n i w hG hO hS hlo hf hi
    exact l12Step_o lo S cs ep du ms en a b n i w hG hO hS hlo hf hi h1 h2 h3 h4 h5 h6

end Go.Proofs.Ytcbdlalpnlahcaa
