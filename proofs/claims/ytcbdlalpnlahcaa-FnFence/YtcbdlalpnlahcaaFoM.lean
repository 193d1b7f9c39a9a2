/- Fences: impl.StepFence of a fence as plays have it. -/
import Derived.Test.YtcbdlalpnlahcaaFoT
import Derived.Test.YtcbdlalpnlahcaaFoK
namespace Go.Proofs.Ytcbdlalpnlahcaa
open Go.RowKit
set_option linter.unusedVariables false
set_option linter.unusedSimpArgs false

/-- What StepFence answers. -/
def SfP (A : Option (Sh.T shFence)) (w : World) (r : Ending) (w' : World) : Prop := AnsP shFence (A.getD z0F) A.isSome w r w'

set_option maxRecDepth 100000 in
set_option maxHeartbeats 8000000 in
theorem stepFence_g (cs : List Value) (ep du : Int) (ms : List (Sh.T shMember)) (en : List (Sh.T .int)) (a id n : Int) (w : World) (E : Option (Sh.T shFence)) (hE : stF ep du ms en a id n = E) (hG : goodF ep du ms en) (hP : playP ep du) (htot : en.length + runT ms < 200) (h : Lies w shFence cs (ep, du, ms, en, ())) :
    Calls Try.prog 22 #[.agg cs.toArray, .agg #[.int .i64 a, .int .i64 id, .int .i64 n]] w (SfP E w) := by
  obtain ⟨a1, k1, a2, k2, rfl, h1, h2⟩ := lies_Fence h
  have HL : Hid (Lies w shFence [.int .i64 ep, .int .i64 du, .slice a1 ms.length k1, .slice a2 en.length k2] (ep, du, ms, en, ())) := h
  have HG : Hid (goodF ep du ms en ∧ playP ep du ∧ totF (mkFe ep du ms en) < 200 ∧ stF ep du ms en a id n = E) := ⟨hG, hP, htot, hE⟩
  have HGO : Hid (∀ y, E = some y → goodT y) := Hid.intro (fun y e => st_good hG (hE.trans e))
  clear h h1 h2 hG hP htot hE
  obtain ⟨w0, hw0⟩ : ∃ x, x = ((w.alloc (.cells #[.int .i64 ep, .int .i64 du, .slice a1 ms.length k1, .slice a2 en.length k2] 29)).alloc (.cells #[.int .i64 a, .int .i64 id, .int .i64 n] 40)).alloc (.cells #[.int .i64 0, .int .i64 0, .slice none 0 0, .slice none 0 0] 29) := ⟨_, rfl⟩
  have HB0 : Hid (Bx w0 w.heap.size [.int .i64 ep, .int .i64 du, .slice a1 ms.length k1, .slice a2 en.length k2] ∧ Bx w0 (w.heap.size + 1) [.int .i64 a, .int .i64 id, .int .i64 n] ∧ Bx w0 (w.heap.size + 1 + 1) [.int .i64 0, .int .i64 0, .slice none 0 0, .slice none 0 0] ∧ Below w.heap.size w w0) := ⟨hw0 ▸ ((Bx.new w [_, _, _, _] _).alloc _).alloc _, hw0 ▸ (Bx.newAt (by simp)).alloc _, hw0 ▸ Bx.newAt (by simp), hw0 ▸ (((Below.refl _ _).alloc (Nat.le_refl _) _).alloc (by simp) _).alloc (by simp; omega) _⟩
  have s0 := (HB0.out.1).cell 0 rfl; have s1 := (HB0.out.1).cell 1 rfl; have s2 := (HB0.out.1).cell 2 rfl; have s3 := (HB0.out.1).cell 3 rfl; have sz := (HB0.out.1).2
  go_enter Try.func22, Try.ntmps22
  go_upto_region 1 with fail
  rw [← hw0]
  clear hw0
  go_wp2_with fail
  refine (goodFence_y [.int .i64 ep, .int .i64 du, .slice a1 ms.length k1, .slice a2 en.length k2] ep du ms en _ HG.out.1 (HL.out.next HB0.out.2.2.2)).mono ?_
  rintro r w1 ⟨rfl, hb1⟩
  have HB1 : Hid (Bx w1 w.heap.size [.int .i64 ep, .int .i64 du, .slice a1 ms.length k1, .slice a2 en.length k2] ∧ Bx w1 (w.heap.size + 1) [.int .i64 a, .int .i64 id, .int .i64 n] ∧ Bx w1 (w.heap.size + 1 + 1) [.int .i64 0, .int .i64 0, .slice none 0 0, .slice none 0 0] ∧ Below w.heap.size w w1) := ⟨HB0.out.1.next hb1, HB0.out.2.1.next hb1, HB0.out.2.2.1.next hb1, below_next HB0.out.2.2.2 hb1⟩
  clear hb1 HB0 s0 s1 s2 s3 sz
  have s0 := (HB1.out.1).cell 0 rfl; have s1 := (HB1.out.1).cell 1 rfl; have s2 := (HB1.out.1).cell 2 rfl; have s3 := (HB1.out.1).cell 3 rfl; have sz := (HB1.out.1).2
  go_wp2_with fail
  refine (openedFence_n [.int .i64 ep, .int .i64 du, .slice a1 ms.length k1, .slice a2 en.length k2] ep du ms en _ HG.out.1 (HL.out.next HB1.out.2.2.2)).mono ?_
  rintro r w2 ⟨p, b, rfl, hop, hb2⟩
  have HB2 : Hid (Bx w2 (w.heap.size + 1) [.int .i64 a, .int .i64 id, .int .i64 n] ∧ Bx w2 (w.heap.size + 1 + 1) [.int .i64 0, .int .i64 0, .slice none 0 0, .slice none 0 0] ∧ Below w.heap.size w w2 ∧ OpS w1.heap.size p b w2 (mkFe ep du ms en) ∧ w1.heap.size ≤ w2.heap.size ∧ w.heap.size + 1 + 1 < w1.heap.size) := ⟨HB1.out.2.1.next hb2, HB1.out.2.2.1.next hb2, below_next HB1.out.2.2.2 hb2, hop, hb2.size, HB1.out.2.2.1.2⟩
  clear hop hb2 HB1 s0 s1 s2 s3 sz
  have t0 := (HB2.out.1).cell 0 rfl; have t1 := (HB2.out.1).cell 1 rfl; have t2 := (HB2.out.1).cell 2 rfl; have tz := (HB2.out.1).2
  go_wp2_with fail
  refine (tkF_n w1.heap.size p b (mkFe ep du ms en) a id n _ HB2.out.2.2.2.1 HB2.out.2.2.2.2.1 HG.out.1 HG.out.2.1 HG.out.2.2.1).mono ?_
  intro r w3 hr3
  have hr3 : StO w1.heap.size p b (stF ep du ms en a id n) w2 r w3 := hr3
  rw [HG.out.2.2.2] at hr3
  obtain ⟨rfl, hb3, hy3⟩ := hr3
  have HB3 : Hid (Bx w3 (w.heap.size + 1 + 1) [.int .i64 0, .int .i64 0, .slice none 0 0, .slice none 0 0] ∧ Below w.heap.size w w3 ∧ (∀ y, E = some y → OpS w1.heap.size p b w3 y) ∧ w1.heap.size ≤ w3.heap.size ∧ w.heap.size + 1 + 1 < w1.heap.size) := Hid.intro (by
    have h6 := HB2.out.2.2.2.2.2
    have ht : TurnS (fun k => w1.heap.size ≤ k) w2 w3 := ⟨hb3.os, hb3.tape, hb3.output, hb3.size, fun k _ hs => hb3.block k (by omega)⟩
    exact ⟨HB2.out.2.1.turnS ht (fun q => by have q : w1.heap.size ≤ w.heap.size + 1 + 1 := q; omega), HB2.out.2.2.1.trans (hb3.mono (by omega)), hy3, Nat.le_trans HB2.out.2.2.2.2.1 hb3.size, h6⟩)
  clear hb3 hy3 HB2 t0 t1 t2 tz
  have r0 := (HB3.out.1).cell 0 rfl; have r1 := (HB3.out.1).cell 1 rfl; have r2 := (HB3.out.1).cell 2 rfl; have r3 := (HB3.out.1).cell 3 rfl; have rz := (HB3.out.1).2
  have rf0 := HB3.out.1.frz 0 (by simp)
  have rf1 := HB3.out.1.frz 1 (by simp)
  have rf2 := HB3.out.1.frz 2 (by simp)
  have rf3 := HB3.out.1.frz 3 (by simp)
  cases E with
  | none =>
    simp only [Option.isSome_none]
    go_wp2_with fail
    exact bodyPost_ret (v := .tuple #[.agg #[.int .i64 0, .int .i64 0, .slice none 0 0, .slice none 0 0], .bool false]) (by simp [results, Try.results22, go_sem, *]) rfl ⟨[.int .i64 0, .int .i64 0, .slice none 0 0, .slice none 0 0], rfl, own_feZ, HB3.out.2.1.trans ((set4 w3 (w.heap.size + 1 + 1) _ _ _ _).below (fun k q => by have q : k = w.heap.size + 1 + 1 := q; omega) HB3.out.2.1.size)⟩
  | some y =>
    simp only [Option.isSome_some]
    obtain ⟨L, B, ve, hO⟩ := HB3.out.2.2.1 y rfl
    have hgy := HGO.out y rfl
    have HO := Hid.intro hO
    have HGY := Hid.intro hgy
    clear hO hgy
    go_wp2_with fail
    refine (closed_n w1.heap.size p b y.1 y.2.1 y.2.2.1 y.2.2.2.1 L B ve _ HO.out HB3.out.2.2.2.1 HGY.out).mono ?_
    rintro r w4 ⟨cs4, rfl, ho4, hb4⟩
    obtain ⟨p3, n3, q3, p4, n4, q4, hcs⟩ := own_cellsF (ep := y.1) (du := y.2.1) (ms := y.2.2.1) (en := y.2.2.2.1) ho4
    subst hcs
    have HB4 : Hid (Bx w4 (w.heap.size + 1 + 1) [.int .i64 0, .int .i64 0, .slice none 0 0, .slice none 0 0] ∧ Below w.heap.size w w4 ∧ Own w4 shFence [.int .i64 y.1, .int .i64 y.2.1, .slice p3 n3 q3, .slice p4 n4 q4] y (fun k => w1.heap.size ≤ k ∧ k < w4.heap.size)) := Hid.intro (by
      have h6 := HB3.out.2.2.2.2
      have ht : TurnS (fun k => w1.heap.size ≤ k) w3 w4 := ⟨hb4.os, hb4.tape, hb4.output, hb4.size, fun k _ hs => hb4.block k (by omega)⟩
      exact ⟨HB3.out.1.turnS ht (fun q => by have q : w1.heap.size ≤ w.heap.size + 1 + 1 := q; omega), HB3.out.2.1.trans (hb4.mono (by omega)), ho4⟩)
    have h6 := HB3.out.2.2.2.2
    clear ho4 hb4 r0 r1 r2 r3 rz rf0 rf1 rf2 rf3 HO HGY HGO
    have r0 := (HB4.out.1).cell 0 rfl; have r1 := (HB4.out.1).cell 1 rfl; have r2 := (HB4.out.1).cell 2 rfl; have r3 := (HB4.out.1).cell 3 rfl; have rz := (HB4.out.1).2
    have rf0 := HB4.out.1.frz 0 (by simp)
    have rf1 := HB4.out.1.frz 1 (by simp)
    have rf2 := HB4.out.1.frz 2 (by simp)
    have rf3 := HB4.out.1.frz 3 (by simp)
    go_wp2_with fail
    refine bodyPost_ret (v := .tuple #[.agg #[.int .i64 y.1, .int .i64 y.2.1, .slice p3 n3 q3, .slice p4 n4 q4], .bool true]) (by simp [results, Try.results22, go_sem, *]) rfl ⟨[.int .i64 y.1, .int .i64 y.2.1, .slice p3 n3 q3, .slice p4 n4 q4], rfl, ?_, HB4.out.2.1.trans ((set4 w4 (w.heap.size + 1 + 1) _ _ _ _).below (fun k q => by have q : k = w.heap.size + 1 + 1 := q; omega) HB4.out.2.1.size)⟩
    have hs := set4 w4 (w.heap.size + 1 + 1) (.int .i64 y.1) (.int .i64 y.2.1) (.slice p3 n3 q3) (.slice p4 n4 q4)
    exact (HB4.out.2.2.turn hs (fun k hk q => by have q : k = w.heap.size + 1 + 1 := q; omega)).mono (fun k hk => by have := hs.size; simp only [Btw]; omega)
end Go.Proofs.Ytcbdlalpnlahcaa
