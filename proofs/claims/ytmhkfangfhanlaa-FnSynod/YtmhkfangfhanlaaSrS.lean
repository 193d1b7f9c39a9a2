/- slices.BinarySearch at texts, the list's keys rising: where a text is, or would be. -/
import Derived.Shelf.Lay
import Derived.Shelf.Spec.SearchS
import Derived.Ground.Names2Prog
import Derived.Test.YtmhkfangfhanlaaMgF
namespace Go.Proofs
open Go.Shelf Go.RowKit
shelf_lay Lays2.n26 Nm2 26 at Try as Try.lays26
theorem Try.search_strs (b off n c : Nat) (Sx : Nat → ByteArray) (x : ByteArray) (w : World) (hbig : n < 4611686018427387904) (hc : ∀ j, j < n → w.cell? ⟨b, off + j, none⟩ = some (.string (Sx j))) :
    Calls Try.prog 51 #[.slice (some ⟨b, off, none⟩) n c, .string x] w fun e w' =>
      e = .returned (.tuple #[.int .i64 (Lib.bsGo (fun t => Op.bytesLess (Sx t).toList x.toList) n 0 n : Nat), .bool (decide (Lib.bsGo (fun t => Op.bytesLess (Sx t).toList x.toList) n 0 n < n ∧ Sx (Lib.bsGo (fun t => Op.bytesLess (Sx t).toList x.toList) n 0 n) = x))]) ∧ ∃ q, w' = w.drewN q :=
  Any2.slices_BinarySearch_string Try.lays26 b off n c Sx x w hbig hc
theorem Try.search_none (a : Option Addr) (c : Nat) (x : ByteArray) (w : World) :
    Calls Try.prog 51 #[.slice a 0 c, .string x] w fun e w' => e = .returned (.tuple #[.int .i64 0, .bool false]) ∧ w' = w := Any2.slices_BinarySearch_string_empty Try.lays26 a c x w
end Go.Proofs
namespace Go.Proofs.Ytmhkfangfhanlaa
open Go.RowKit
set_option linter.unusedVariables false

theorem plN_after {L : List CellV} (hr : riseL L) (t : List UInt8) {q : Nat} (h1 : plN L t ≤ q) (h2 : q < L.length) : Op.bytesLess (cV L q).f0.toList t = false := by
  have h0 := plN_not L t (by omega)
  cases e : Op.bytesLess (cV L q).f0.toList t
  · rfl
  · by_cases hq : plN L t = q
    · rw [hq] at h0; rw [h0] at e; cases e
    · have hl := riseK_lt hr (show plN L t < q by omega) h2
      have := less_trans hl e
      rw [h0] at this; cases this
theorem plN_before {L : List CellV} (t : List UInt8) {q : Nat} (h1 : q < plN L t) : Op.bytesLess (cV L q).f0.toList t = true := by
  have hle := plN_le L t
  have hq : q < L.length := by omega
  rw [cV_at hq]
  refine plN_less L t _ ?_
  rw [List.mem_take_iff_getElem]
  exact ⟨q, by omega, rfl⟩
/-- Whether a text is there. -/
def hitB (L : List CellV) (t : ByteArray) : Bool := decide (plN L t.toList < L.length ∧ (cV L (plN L t.toList)).f0 = t)
theorem searchStr_n (L : List CellV) (t : ByteArray) (a : Option Addr) (c : Nat) (w : World) (hr : riseL L) (hn : L.length ≤ 1000) (hc : 0 < L.length → ∃ g, a = some ⟨g, 0, none⟩ ∧ ∀ j, j < L.length → w.cell? ⟨g, 0 + j, none⟩ = some (.string (cV L j).f0)) :
    Calls Try.prog 51 #[.slice a L.length c, .string t] w fun e w' => e = .returned (.tuple #[.int .i64 (plN L t.toList : Nat), .bool (hitB L t)]) ∧ Below w.heap.size w w' := by
  rcases Nat.eq_zero_or_pos L.length with h0 | hp
  · have hL : L = [] := List.eq_nil_of_length_eq_zero h0
    subst hL
    refine (Try.search_none a c t w).mono ?_
    rintro e w' ⟨rfl, rfl⟩
    exact ⟨by simp [plN, hitB], Below.refl _ _⟩
  · obtain ⟨g, rfl, hcell⟩ := hc hp
    obtain ⟨Sx, hS⟩ : ∃ Sx : Nat → ByteArray, Sx = fun j => if j < L.length then (cV L j).f0 else t := ⟨_, rfl⟩
    have e1 : Lib.bsGo (fun q => Op.bytesLess (Sx q).toList t.toList) L.length 0 L.length = plN L t.toList := by
      refine Lib.bsGo_spec _ (plN L t.toList) (fun q hq => ?_) (fun q hq => ?_) _ _ _ (Nat.le_refl _) (Nat.zero_le _) (plN_le L t.toList)
      · have := plN_le L t.toList
        simp only [hS, if_pos (show q < L.length by omega)]
        exact plN_before _ hq
      · by_cases hl : q < L.length
        · simp only [hS, if_pos hl]; exact plN_after hr _ hq hl
        · simp only [hS, if_neg hl]; exact less_irr _
    refine (Try.search_strs g 0 L.length c Sx t w (by omega) (fun j hj => by rw [hcell j hj, hS]; simp only [if_pos hj])).mono ?_
    rintro e w' ⟨rfl, q, rfl⟩
    rw [e1]
    refine ⟨?_, ⟨rfl, rfl, rfl, Nat.le_refl _, fun _ _ => rfl⟩⟩
    have e2 : decide (plN L t.toList < L.length ∧ Sx (plN L t.toList) = t) = hitB L t := by
      unfold hitB
      by_cases hl : plN L t.toList < L.length
      · simp only [hS, if_pos hl]
      · simp [hl]
    rw [e2]
end Go.Proofs.Ytmhkfangfhanlaa
