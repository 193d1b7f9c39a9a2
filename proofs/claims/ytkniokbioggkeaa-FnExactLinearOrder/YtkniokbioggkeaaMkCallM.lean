/- The law's own markCallS. Written by tools/mkMk.py (without held). -/
import Derived.Test.YtkniokbioggkeaaRwCall
import Derived.Test.YtkniokbioggkeaaMarkT
import Derived.Test.YtkniokbioggkeaaTrR
import Derived.Deep.RegionWith
import Derived.Deep.DeepCutAuto
namespace Go.Proofs.Ytkniokbioggkeaa
open Go.RowKit
set_option linter.unusedVariables false

def mkCall (q : Int) (i : Nat) : CallV := let y := q + 6 * i; ⟨y, (y + 1) % 3 == 0, mtx (y + 1 + 1), mtx (y + 1 + 1 + 1), (y + 1 + 1 + 1 + 1), (y + 1 + 1 + 1 + 1 + 1)⟩
theorem mkCall_vs {q y : Int} {k : Nat} (hy : y = q + 6 * k) : ∀ j, j < 6 → ([.int .i64 y, .bool ((y + 1) % 3 == 0), .string (mtx (y + 1 + 1)), .string (mtx (y + 1 + 1 + 1)), .int .i64 (y + 1 + 1 + 1 + 1), .int .i64 (y + 1 + 1 + 1 + 1 + 1)] : List Value)[j]? = some (callF (mkCall q) k j) := by
  subst hy
  intro j hj
  match j, hj with
  | 0, _ => rfl
  | 1, _ => rfl
  | 2, _ => rfl
  | 3, _ => rfl
  | 4, _ => rfl
  | 5, _ => rfl

set_option maxRecDepth 100000 in
set_option maxHeartbeats 4000000 in
theorem markCallS_row (a : Option Addr) (n cap : Nat) (G : Nat → Nat → Value) (q : Int) (B C : Nat) (w : World) (hn : n ≤ 1048576) (h0 : 0 < q) (h1 : q ≤ 8796000000000) (hs : SRow w B C a n 6 G) :
    Calls Try.prog 29 #[.slice a n cap, .int .i64 q] w fun r w' => r = .returned (.int .i64 (q + 6 * n)) ∧ SRow w' B C a n 6 (callF (mkCall q)) ∧ TrR B C w w' := by
  rcases hs.1 with hz | ⟨g, rfl, hB, hC, hg, hE, hR⟩
  · subst hz
    have HC : Hid (C ≤ w.heap.size) := hs.2
    clear hs
    go_enter Try.func29, Try.ntmps29
    go_wp2
    go_loopw [5, 1] (fun i q' wr => i = .int .i64 0 ∧ q' = .int .i64 q ∧ wr = w) (fun _ _ _ => 0)
    case atStart => exact ⟨rfl, rfl, rfl⟩
    case round =>
      obtain ⟨rfl, rfl, rfl⟩ := hrel
      go_wp2
      go_ret
      exact ⟨by simp, ⟨Or.inl rfl, HC.out⟩, TrR.refl _ _ _⟩
  have HC : Hid (C ≤ w.heap.size) := hs.2
  clear hs hE
  go_enter Try.func29, Try.ntmps29
  go_wp2
  go_loopw [5, 1] (fun i q' wr => ∃ k : Nat, k ≤ n ∧ i = .int .i64 k ∧ q' = .int .i64 (q + 6 * k) ∧ Elems wr g 0 k 6 (callF (mkCall q)) ∧ Room wr g (n * 6) ∧ g < wr.heap.size ∧ TrR B C w wr) (fun i _ _ => n - (intOf i).toNat)
  case atStart => exact ⟨0, Nat.zero_le _, rfl, by simp, fun i hi => absurd hi (by omega), hR, hg, TrR.refl _ _ _⟩
  case round =>
    obtain ⟨k, hk, rfl, rfl, hEr, hRr, hgr, ht⟩ := hrel
    clear hR hg
    by_cases hlt : k < n
    · have hlt' : (k : Int) < (n : Int) := by omega
      obtain ⟨y, hy⟩ : ∃ y, y = q + 6 * (k : Int) := ⟨_, rfl⟩
      rw [← hy]
      have hyb : 0 < y ∧ y ≤ 8796080000000 := by omega
      have HY : Hid (y = q + 6 * (k : Int)) := hy
      clear hy
      have P0 : Part wr g n 6 k 0 [.int .i64 y, .bool ((y + 1) % 3 == 0), .string (mtx (y + 1 + 1)), .string (mtx (y + 1 + 1 + 1)), .int .i64 (y + 1 + 1 + 1 + 1), .int .i64 (y + 1 + 1 + 1 + 1 + 1)] (callF (mkCall q)) := Part.start hEr hRr hgr
      have t0 : TrR B C w wr := ht
      clear hEr hRr ht
      obtain ⟨⟨x0, r0⟩, f0⟩ := P0.2.2.1 (k * 6) (by omega)
      obtain ⟨⟨x1, r1⟩, f1⟩ := P0.2.2.1 (k * 6 + 1) (by omega)
      have HP : Hid (Part ((wr.setCell ⟨g, k * 6, none⟩ (.int .i64 y)).setCell ⟨g, k * 6 + 1, none⟩ (.bool ((y + 1) % 3 == 0))) g n 6 k 2 [.int .i64 y, .bool ((y + 1) % 3 == 0), .string (mtx (y + 1 + 1)), .string (mtx (y + 1 + 1 + 1)), .int .i64 (y + 1 + 1 + 1 + 1), .int .i64 (y + 1 + 1 + 1 + 1 + 1)] (callF (mkCall q)) ∧ TrR B C w ((wr.setCell ⟨g, k * 6, none⟩ (.int .i64 y)).setCell ⟨g, k * 6 + 1, none⟩ (.bool ((y + 1) % 3 == 0)))) := ⟨((P0.set (v := .int .i64 y) hlt (by omega) rfl).set (v := .bool ((y + 1) % 3 == 0)) hlt (by omega) rfl), ((t0.set (p := ⟨g, k * 6, none⟩) hB hC (.int .i64 y)).set (p := ⟨g, k * 6 + 1, none⟩) hB hC (.bool ((y + 1) % 3 == 0)))⟩
      clear P0 t0
      go_wp2_with fail
      refine (markText_any _ _ (by omega) (by omega)).mono ?_
      rintro r w2 ⟨rfl, hb2⟩
      have Q0 := HP.out.1.next hb2
      have u0 := HP.out.2.next hb2
      clear hb2 HP r0 f0 r1 f1
      obtain ⟨⟨x2, r2⟩, f2⟩ := Q0.2.2.1 (k * 6 + 2) (by omega)
      have hg0 : g < w2.heap.size := Q0.2.2.2
      have P1 : Part (w2.setCell ⟨g, k * 6 + 2, none⟩ (.string (mtx (y + 1 + 1)))) g n 6 k 3 [.int .i64 y, .bool ((y + 1) % 3 == 0), .string (mtx (y + 1 + 1)), .string (mtx (y + 1 + 1 + 1)), .int .i64 (y + 1 + 1 + 1 + 1), .int .i64 (y + 1 + 1 + 1 + 1 + 1)] (callF (mkCall q)) := (Q0.set (v := .string (mtx (y + 1 + 1))) hlt (by omega) rfl)
      have t1 : TrR B C w (w2.setCell ⟨g, k * 6 + 2, none⟩ (.string (mtx (y + 1 + 1)))) := (u0.set (p := ⟨g, k * 6 + 2, none⟩) hB hC (.string (mtx (y + 1 + 1))))
      clear Q0 u0
      have HP : Hid (Part (w2.setCell ⟨g, k * 6 + 2, none⟩ (.string (mtx (y + 1 + 1)))) g n 6 k 3 [.int .i64 y, .bool ((y + 1) % 3 == 0), .string (mtx (y + 1 + 1)), .string (mtx (y + 1 + 1 + 1)), .int .i64 (y + 1 + 1 + 1 + 1), .int .i64 (y + 1 + 1 + 1 + 1 + 1)] (callF (mkCall q)) ∧ TrR B C w (w2.setCell ⟨g, k * 6 + 2, none⟩ (.string (mtx (y + 1 + 1))))) := ⟨P1, t1⟩
      clear P1 t1
      go_wp2_with fail
      refine (markText_any _ _ (by omega) (by omega)).mono ?_
      rintro r w3 ⟨rfl, hb2⟩
      have Q1 := HP.out.1.next hb2
      have u1 := HP.out.2.next hb2
      clear hb2 HP r2 f2
      obtain ⟨⟨x3, r3⟩, f3⟩ := Q1.2.2.1 (k * 6 + 3) (by omega)
      have hg1 : g < w3.heap.size := Q1.2.2.2
      obtain ⟨⟨x4, r4⟩, f4⟩ := Q1.2.2.1 (k * 6 + 4) (by omega)
      obtain ⟨⟨x5, r5⟩, f5⟩ := Q1.2.2.1 (k * 6 + 5) (by omega)
      have HF : Hid (_ ∧ _) := ⟨(((Q1.set (v := .string (mtx (y + 1 + 1 + 1))) hlt (by omega) rfl).set (v := .int .i64 (y + 1 + 1 + 1 + 1)) hlt (by omega) rfl).set (v := .int .i64 (y + 1 + 1 + 1 + 1 + 1)) hlt (by omega) rfl).done (mkCall_vs HY.out), (((u1.set (p := ⟨g, k * 6 + 3, none⟩) hB hC (.string (mtx (y + 1 + 1 + 1)))).set (p := ⟨g, k * 6 + 4, none⟩) hB hC (.int .i64 (y + 1 + 1 + 1 + 1))).set (p := ⟨g, k * 6 + 5, none⟩) hB hC (.int .i64 (y + 1 + 1 + 1 + 1 + 1)))⟩
      clear Q1 u1
      go_wp2
      go_roundw
      case rel => exact ⟨k + 1, by omega, by go_num, by have := HY.out; congr 1; omega, HF.out.1.1, HF.out.1.2.1, HF.out.1.2.2, HF.out.2⟩
      case measure => simp [intOf]; omega
    · have hkn : k = n := by omega
      subst hkn
      have HH : Hid (Elems wr g 0 k 6 (callF (mkCall q)) ∧ Room wr g (k * 6) ∧ g < wr.heap.size ∧ TrR B C w wr) := ⟨hEr, hRr, hgr, ht⟩
      clear hEr hRr ht
      go_wp2
      go_ret
      exact ⟨rfl, ⟨Or.inr ⟨g, rfl, hB, hC, HH.out.2.2.1, HH.out.1, HH.out.2.1⟩, Nat.le_trans HC.out HH.out.2.2.2.size⟩, HH.out.2.2.2⟩
end Go.Proofs.Ytkniokbioggkeaa
