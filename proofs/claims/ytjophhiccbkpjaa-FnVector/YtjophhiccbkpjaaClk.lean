/- The contracts of CompareClock and of the specification's own. -/
import Derived.Test.YtjophhiccbkpjaaCmp
namespace Go.Proofs.Ytjophhiccbkpjaa
open Go.RowKit
set_option linter.unusedVariables false

def ccOk (X : Nat → Int) (n : Nat) (Y : Nat → Int) (m : Nat) : Bool := vfOk X n 1000000 && vfOk Y m 1000000
def ccN (X : Nat → Int) (n : Nat) (Y : Nat → Int) (m : Nat) : Int := if ccOk X n Y m then cmpV X Y else 0
theorem cc_no {X : Nat → Int} {n : Nat} {Y : Nat → Int} {m : Nat} (h : ccOk X n Y m = false) : Ending.returned (.tuple #[.int .i64 0, .bool false]) = .returned (.tuple #[.int .i64 (ccN X n Y m), .bool (ccOk X n Y m)]) := by simp [ccN, h]
theorem cc_yes {X : Nat → Int} {n : Nat} {Y : Nat → Int} {m : Nat} {v : Int} (h : ccOk X n Y m = true) (hv : v = cmpV X Y) : Ending.returned (.tuple #[.int .i64 v, .bool true]) = .returned (.tuple #[.int .i64 (ccN X n Y m), .bool (ccOk X n Y m)]) := by simp [ccN, h, hv]
theorem lessTo_congr {x y x' y' : Nat → Int} : ∀ k, (∀ i, i < k → x i = x' i) → (∀ i, i < k → y i = y' i) → lessTo x y k = lessTo x' y' k
  | 0, _, _ => rfl
  | k + 1, hx, hy => by
    simp only [lessTo]
    rw [lessTo_congr k (fun i hi => hx i (by omega)) (fun i hi => hy i (by omega)), hx k (by omega), hy k (by omega)]
theorem cmpV_congr {x y x' y' : Nat → Int} (hx : ∀ i, i < 6 → x i = x' i) (hy : ∀ i, i < 6 → y i = y' i) : cmpV x y = cmpV x' y' := by
  simp only [cmpV]; rw [lessTo_congr 6 hx hy, lessTo_congr 6 hy hx]

set_option maxHeartbeats 1000000 in
theorem compareClock_any (a : Option Addr) (n cap : Nat) (X : Nat → Int) (a' : Option Addr) (n' cap' : Nat) (Y : Nat → Int) (w : World) (hn : n ≤ 1048576) (hn' : n' ≤ 1048576) (hs : Sl w a n 1 (intF X)) (hs' : Sl w a' n' 1 (intF Y)) :
    Calls Try.prog 23 #[.agg #[.slice a n cap], .agg #[.slice a' n' cap']] w fun r w' => r = .returned (.tuple #[.int .i64 (ccN X n Y n'), .bool (ccOk X n Y n')]) ∧ Below w.heap.size w w' := by
  have HS : Hid (Sl w a n 1 (intF X) ∧ Sl w a' n' 1 (intF Y)) := ⟨hs, hs'⟩
  clear hs hs'
  go_enter Try.func23, Try.ntmps23
  go_wp2_with fail
  have hba : Below w.heap.size w ((w.alloc (.cells #[.slice a n cap] 36)).alloc (.cells #[.slice a' n' cap'] 36)) := ((Below.refl _ _).alloc (Nat.le_refl _) _).alloc (by simp) _
  refine (vectorFrom_any _ _ _ X _ _ hn (HS.out.1.below hba (Nat.le_refl _))).mono ?_
  rintro r w1 ⟨rfl, hb1⟩
  have HP : Hid (∀ i, i < 6 → vfOk X n 1000000 = true → vfV X n 1000000 i = X i) := fun i _ h => by simp [vfV, h]
  have HJ : Hid (ccOk X n Y n' = (vfOk X n 1000000 && vfOk Y n' 1000000)) := rfl
  generalize vfV X n 1000000 = U at *
  generalize vfOk X n 1000000 = p at *
  have HB1 : Hid (Below w.heap.size w w1) := hba.trans (hb1.mono (by simp; omega))
  have q1 : w1.cell? ⟨w.heap.size + 1, 0, none⟩ = some (.slice a' n' cap') := by rw [hb1.cell (p := ⟨w.heap.size + 1, 0, none⟩) (by simp)]; simp [go_sem]
  have z1 : w.heap.size + 1 < w1.heap.size := by have := hb1.size; simp at this; omega
  clear hb1 hba
  unfold vec
  go_wp2_with fail
  have hba : Below w.heap.size w (w1.alloc (.cells #[.int .i64 (U 0), .int .i64 (U 1), .int .i64 (U 2), .int .i64 (U 3), .int .i64 (U 4), .int .i64 (U 5)] 73)) := HB1.out.alloc HB1.out.size _
  refine (vectorFrom_any _ _ _ Y _ _ hn' (HS.out.2.below hba (Nat.le_refl _))).mono ?_
  rintro r w2 ⟨rfl, hb2⟩
  have HV1 : Hid (Vec w2 w1.heap.size U) := (Vec.new w1 U 73).below hb2 (by simp)
  have HB2 : Hid (Below w.heap.size w w2) := hba.trans (hb2.mono (by have := HB1.out.size; simp; omega))
  have hz2 : w1.heap.size < w2.heap.size := by have := hb2.size; simp at this; omega
  have hz1 : w.heap.size ≤ w1.heap.size := HB1.out.size
  clear hba hb2 HB1 HS q1
  have HQ : Hid (∀ i, i < 6 → vfOk Y n' 1000000 = true → vfV Y n' 1000000 i = Y i) := fun i _ h => by simp [vfV, h]
  generalize vfV Y n' 1000000 = V at *
  generalize vfOk Y n' 1000000 = q at *
  unfold vec
  cases p
  · have HN : Hid (ccOk X n Y n' = false) := HJ.out
    clear HJ
    go_wp2
    have hb := HB2.out
    exact bodyPost_ret (v := .tuple #[.int .i64 0, .bool false]) (by simp [results, Try.results23, go_sem]) rfl ⟨cc_no HN.out, (by repeat (first | refine Below.setCell ?_ (by (try simp) <;> omega) _ | refine Below.alloc ?_ (by (try simp) <;> omega) _ | refine Below.drew ?_ | assumption | exact Below.refl _ _ | refine Below.trans ?_ (Below.mono (by assumption) (by (try simp) <;> omega))))⟩
  cases q
  · have HN : Hid (ccOk X n Y n' = false) := HJ.out
    clear HJ
    go_wp2
    have hb := HB2.out
    exact bodyPost_ret (v := .tuple #[.int .i64 0, .bool false]) (by simp [results, Try.results23, go_sem]) rfl ⟨cc_no HN.out, (by repeat (first | refine Below.setCell ?_ (by (try simp) <;> omega) _ | refine Below.alloc ?_ (by (try simp) <;> omega) _ | refine Below.drew ?_ | assumption | exact Below.refl _ _ | refine Below.trans ?_ (Below.mono (by assumption) (by (try simp) <;> omega))))⟩
  have HN : Hid (ccOk X n Y n' = true) := HJ.out
  obtain ⟨⟨c0, c1, c2, c3, c4, c5⟩, _⟩ := HV1.out.six
  have HB3 : Hid (Below w.heap.size w (w2.alloc (.cells #[.int .i64 (V 0), .int .i64 (V 1), .int .i64 (V 2), .int .i64 (V 3), .int .i64 (V 4), .int .i64 (V 5)] 73))) := HB2.out.alloc HB2.out.size _
  clear HJ HV1 HB2
  go_wp2_with fail
  refine (compare_any U V _).mono ?_
  rintro r w3 ⟨rfl, hb3⟩
  have HF : Hid (Below w.heap.size w w3) := HB3.out.trans (hb3.mono HB3.out.size)
  clear hb3 c0 c1 c2 c3 c4 c5
  have HC : Hid (cmpV U V = cmpV X Y) := cmpV_congr (fun i hi => HP.out i hi (by simp)) (fun i hi => HQ.out i hi (by simp))
  generalize cmpV U V = z at *
  go_wp2
  exact bodyPost_ret (v := .tuple #[.int .i64 z, .bool true]) (by simp [results, Try.results23, go_sem]) rfl ⟨cc_yes HN.out HC.out, HF.out⟩

theorem vf_short {X : Nat → Int} {n k : Nat} {g : Int} (hk : k < n) (h : inR (X k) 0 g = false) : vfOk X n g = false := by
  by_cases h6 : n = 6
  · subst h6; exact vf_bad hk h
  · simp [vfOk, h6]
theorem vf_long {X : Nat → Int} {n : Nat} {g : Int} (h : ∀ i, i < n → inR (X i) 0 g = true) : ((n : Int) == 6) = vfOk X n g := by
  by_cases h6 : n = 6
  · subst h6; simp [vfOk, (allIn_iff X g 6).2 h]
  · simp [vfOk, h6]; omega

set_option maxHeartbeats 1000000 in
theorem l2Clock_any (a : Option Addr) (n cap : Nat) (X : Nat → Int) (w : World) (hn : n ≤ 1048576) (hs : Sl w a n 1 (intF X)) :
    Calls Try.prog 64 #[.agg #[.slice a n cap]] w fun r w' => r = .returned (.bool (vfOk X n 1000000)) ∧ Below w.heap.size w w' := by
  go_enter Try.func64, Try.ntmps64
  go_wp2
  go_loopw [8] (fun i wr => ∃ k : Nat, k ≤ n ∧ i = .int .i64 k ∧ wr.cell? ⟨w.heap.size, 0, none⟩ = some (.slice a n cap) ∧ (∀ i, i < k → inR (X i) 0 1000000 = true) ∧ Below w.heap.size w wr) (fun i _ => n - (intOf i).toNat)
  case atStart => exact ⟨0, Nat.zero_le _, rfl, by simp [go_sem], fun i hi => absurd hi (by omega), (by repeat (first | refine Below.setCell ?_ (by (try simp) <;> omega) _ | refine Below.alloc ?_ (by (try simp) <;> omega) _ | refine Below.drew ?_ | assumption | exact Below.refl _ _ | refine Below.trans ?_ (Below.mono (by assumption) (by (try simp) <;> omega))))⟩
  case round =>
    obtain ⟨k, hk, rfl, hq, hall, hBr⟩ := hrel
    by_cases hlt : k < n
    · rcases hs.below hBr (Nat.le_refl _) with h | ⟨b, off, rfl, hbs, hE⟩
      · omega
      have hlt' : (k : Int) < (n : Int) := by omega
      have hc := int_cell hE hlt
      have HH : Hid (wr.cell? ⟨w.heap.size, 0, none⟩ = some (.slice (some ⟨b, off, none⟩) n cap) ∧ (∀ i, i < k → inR (X i) 0 1000000 = true) ∧ Below w.heap.size w wr) := ⟨hq, hall, hBr⟩
      clear hq hall hBr hs hE
      cases hg : inR (X k) 0 1000000
      · have HN : Hid (vfOk X n 1000000 = false) := vf_short hlt hg
        go_wp2_with (go_at_call 57; refine (l1In_any _ _ _ _).mono ?_; rintro e w' ⟨rfl, rfl⟩)
        go_ret
        exact ⟨ret_bool HN.out.symm, HH.out.2.2⟩
      · go_wp2_with (go_at_call 57; refine (l1In_any _ _ _ _).mono ?_; rintro e w' ⟨rfl, rfl⟩)
        go_roundw
        case rel => exact ⟨k + 1, by omega, by go_num, HH.out.1, upto_succ HH.out.2.1 hg, HH.out.2.2⟩
        case measure => simp [intOf]; omega
    · have hkn : k = n := by omega
      subst hkn
      have HN : Hid (((k : Int) == 6) = vfOk X k 1000000) := vf_long hall
      have HB : Hid (Below w.heap.size w wr) := hBr
      clear hs hall hBr
      go_wp2
      go_ret
      exact ⟨ret_bool HN.out, HB.out⟩
end Go.Proofs.Ytjophhiccbkpjaa
