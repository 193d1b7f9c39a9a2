/- Latest ones and adds: cmp.Compare, cmp.Or, the program's comparisons, what is a latest one. Written by tools/mkLtA.py. -/
import Derived.Test.YtnglgndocmkbfaaIn
import Derived.Test.YtnglgndocmkbfaaValI
import Derived.Test.YtnglgndocmkbfaaCmT
import Derived.Test.YtnglgndocmkbfaaBx
import Derived.Test.YtnglgndocmkbfaaRg2
import Derived.Test.YtnglgndocmkbfaaRowS
import Derived.Test.YtnglgndocmkbfaaShX
import Derived.Test.YtnglgndocmkbfaaNg
import Derived.WalkKit
import Derived.WalkSpells
import Derived.WalkLawsBesides
import Derived.Deep.QuietTactic
import Derived.BigQuiet
import Derived.Deep.RegionWith
import Derived.Deep.DeepCutAuto
import Derived.Deep.RegionHeld3
namespace Go.Proofs.Ytnglgndocmkbfaa
open Go.RowKit
set_option linter.unusedVariables false
set_option linter.unusedSimpArgs false

def cmI (a b : Int) : Int := if a < b then -1 else if b < a then 1 else 0
set_option maxHeartbeats 400000 in
theorem isNaN_n (a : Int) (w : World) : Calls Try.prog 134 #[.int .i64 a] w fun r w' => r = .returned (.bool false) ∧ w' = w := by
  go_enter Try.func134, Try.ntmps134
  go_wp2
  go_ret
  exact ⟨ret_bool (by simp), rfl⟩
set_option maxHeartbeats 1000000 in
theorem cmpInt_n (a b : Int) (w : World) : Calls Try.prog 115 #[.int .i64 a, .int .i64 b] w fun r w' => r = .returned (.int .i64 (cmI a b)) ∧ w' = w := by
  by_cases h1 : a < b
  · have HN : Hid (cmI a b = -1) := Hid.intro (by unfold cmI; rw [if_pos h1])
    go_enter Try.func115, Try.ntmps115
    go_wp2_with (go_at_call 134; refine (isNaN_n _ _).mono ?_; rintro e w' ⟨rfl, hw⟩; have hw := hw.symm; subst hw)
    go_ret
    exact ⟨(congrArg (fun n => Ending.returned (.int .i64 n)) HN.out).symm, rfl⟩
  · by_cases h2 : b < a
    · have HN : Hid (cmI a b = 1) := Hid.intro (by unfold cmI; rw [if_neg h1, if_pos h2])
      go_enter Try.func115, Try.ntmps115
      go_wp2_with (go_at_call 134; refine (isNaN_n _ _).mono ?_; rintro e w' ⟨rfl, hw⟩; have hw := hw.symm; subst hw)
      go_ret
      exact ⟨(congrArg (fun n => Ending.returned (.int .i64 n)) HN.out).symm, rfl⟩
    · have HN : Hid (cmI a b = 0) := Hid.intro (by unfold cmI; rw [if_neg h1, if_neg h2])
      go_enter Try.func115, Try.ntmps115
      go_wp2_with (go_at_call 134; refine (isNaN_n _ _).mono ?_; rintro e w' ⟨rfl, hw⟩; have hw := hw.symm; subst hw)
      go_ret
      exact ⟨(congrArg (fun n => Ending.returned (.int .i64 n)) HN.out).symm, rfl⟩
/-- The first that is not zero. -/
def orL : List Int → Int
  | [] => 0
  | x :: t => if x = 0 then orL t else x
theorem orL_zero : ∀ {l : List Int}, (∀ x ∈ l, x = 0) → orL l = 0
  | [], _ => rfl
  | x :: t, h => by unfold orL; rw [if_pos (h x (by simp))]; exact orL_zero (fun y hy => h y (by simp [hy]))
theorem orL_at : ∀ {l : List Int} {k : Nat}, k < l.length → (∀ j, j < k → atI l j = 0) → atI l k ≠ 0 → orL l = atI l k
  | [], k, hk, _, _ => by simp at hk
  | x :: t, 0, _, _, h => by unfold orL; rw [if_neg (show ¬ x = 0 from h)]; rfl
  | x :: t, k + 1, hk, ha, h => by
    unfold orL
    rw [if_pos (show x = 0 from ha 0 (by omega))]
    exact orL_at (l := t) (k := k) (by simpa using hk) (fun j hj => ha (j + 1) (by omega)) h
set_option maxRecDepth 100000 in
set_option maxHeartbeats 1000000 in
theorem cmpOr_n (g cap n : Nat) (l : List Int) (w : World) (hl : l.length = n) (hn : n ≤ 1073741824) (hg : g < w.heap.size) (hc : ∀ k, k < n → w.cell? ⟨g, k, none⟩ = some (.int .i64 (atI l k))) :
    Calls Try.prog 114 #[.slice (some ⟨g, 0, none⟩) n cap] w fun r w' => r = .returned (.int .i64 (orL l)) ∧ w' = w := by
  have HC := Hid.intro hc
  have HLN := Hid.intro hl
  clear hc hl
  go_enter Try.func114, Try.ntmps114
  go_wp2
  go_loopw [8] (fun i wr => ∃ k : Nat, k ≤ n ∧ i = .int .i64 k ∧ (∀ j, j < k → atI l j = 0) ∧ wr = w) (fun i _ => n - (intOf i).toNat)
  case atStart => exact ⟨0, Nat.zero_le _, rfl, fun j hj => absurd hj (Nat.not_lt_zero j), rfl⟩
  case round =>
    obtain ⟨k, hk, rfl, hall, rfl⟩ := hrel
    have HA := Hid.intro hall
    clear hall
    by_cases hlt : k < n
    · have hlt' : (k : Int) < (n : Int) := by omega
      have hcr := HC.out k hlt
      obtain ⟨y, hy⟩ : ∃ y, y = atI l k := ⟨_, rfl⟩
      have HE := Hid.intro hy
      rw [← hy] at hcr
      clear hy
      by_cases c : y = 0
      · subst c
        go_wp2
        go_roundw
        case rel => exact ⟨k + 1, by omega, by go_num, fun j hj => (by by_cases e : j = k; exact e ▸ HE.out.symm; exact HA.out j (by omega)), trivial⟩
        case measure => simp [intOf]; omega
      · have HN : Hid (orL l = y) := Hid.intro (by rw [HE.out]; exact orL_at (by rw [HLN.out]; exact hlt) HA.out (by rw [← HE.out]; exact c))
        go_wp2
        go_ret
        exact ⟨(congrArg (fun n => Ending.returned (.int .i64 n)) HN.out).symm, rfl⟩
    · have HN : Hid (orL l = 0) := Hid.intro (orL_zero (fun x hx => by
        obtain ⟨i, hi, rfl⟩ := List.getElem_of_mem hx
        rw [← atI_lt hi]; exact HA.out i (by rw [HLN.out] at hi; omega)))
      go_wp2
      go_ret
      exact ⟨(congrArg (fun n => Ending.returned (.int .i64 n)) HN.out).symm, rfl⟩
def cmA (a n a' n' : Int) : Int := orL [cmI a a', cmI n n']
def cmL (v : ByteArray) (t a : Int) (v' : ByteArray) (t' a' : Int) : Int := orL [cmI t t', cmI a a', Lib.compareBytes v.toList v'.toList]
theorem cmI_neg {a b : Int} : cmI a b < 0 ↔ a < b := by unfold cmI; split; omega; split <;> omega
theorem cmI_zero {a b : Int} : cmI a b = 0 ↔ a = b := by unfold cmI; split; omega; split <;> omega
theorem cmA_neg {a n a' n' : Int} : cmA a n a' n' < 0 ↔ a < a' ∨ (a = a' ∧ n < n') := by
  unfold cmA orL orL orL
  have h1 := @cmI_neg a a'
  have h2 := @cmI_zero a a'
  have h3 := @cmI_neg n n'
  have h4 := @cmI_zero n n'
  split
  · split <;> omega
  · omega
theorem cmL_neg {v : ByteArray} {t a : Int} {v' : ByteArray} {t' a' : Int} : cmL v t a v' t' a' < 0 ↔ t < t' ∨ (t = t' ∧ (a < a' ∨ (a = a' ∧ Op.bytesLess v.toList v'.toList = true))) := by
  unfold cmL orL orL orL orL
  have h1 := @cmI_neg t t'
  have h2 := @cmI_zero t t'
  have h3 := @cmI_neg a a'
  have h4 := @cmI_zero a a'
  have h5 := less_cmp v.toList v'.toList
  rw [← h5]
  split
  · split
    · split <;> omega
    · omega
  · omega
theorem lit_cells {W : World} {v : List Int} : ∀ k, k < v.length → (W.alloc (.cells (v.map (Value.int .i64)).toArray 3)).cell? ⟨W.heap.size, k, none⟩ = some (.int .i64 (atI v k)) := by
  intro k hk
  have h := (Bx.new W (v.map (Value.int .i64)) 3).cell k (v := .int .i64 (atI v k)) (by rw [List.getElem?_map, List.getElem?_eq_getElem hk, atI_lt hk]; rfl)
  exact h

set_option maxRecDepth 100000 in
set_option maxHeartbeats 1000000 in
theorem compareAdd_n (v : ByteArray) (a n : Int) (v' : ByteArray) (a' n' : Int) (w : World) :
    Calls Try.prog 121 #[.agg #[.string v, .int .i64 a, .int .i64 n], .agg #[.string v', .int .i64 a', .int .i64 n']] w fun r w' => r = .returned (.int .i64 (cmA a n a' n')) ∧ w' = (((w.alloc (.cells #[.string v, .int .i64 a, .int .i64 n] 113)).alloc (.cells #[.string v', .int .i64 a', .int .i64 n'] 113)).drew.alloc (.cells #[.int .i64 (cmI a a'), .int .i64 (cmI n n')] 3)) := by
  obtain ⟨w0, hw0⟩ : ∃ x, x = (w.alloc (.cells #[.string v, .int .i64 a, .int .i64 n] 113)).alloc (.cells #[.string v', .int .i64 a', .int .i64 n'] 113) := ⟨_, rfl⟩
  have HE := Hid.intro hw0
  rw [← hw0]
  have HB : Hid (Bx w0.drew w.heap.size [.string v, .int .i64 a, .int .i64 n] ∧ Bx w0.drew (w.heap.size + 1) [.string v', .int .i64 a', .int .i64 n']) := by
    have e0 : Bx w0 w.heap.size [.string v, .int .i64 a, .int .i64 n] := hw0 ▸ (Bx.new w [_, _, _] _).alloc _
    have e1 : Bx w0 (w.heap.size + 1) [.string v', .int .i64 a', .int .i64 n'] := hw0 ▸ Bx.newAt (by simp)
    exact ⟨e0.next (below_drew _), e1.next (below_drew _)⟩
  have HS : Hid (w0.heap.size = w.heap.size + 1 + 1) := Hid.intro (by rw [hw0]; simp)
  clear hw0
  obtain ⟨y0, hy0⟩ : ∃ y, y = cmI a a' := ⟨_, rfl⟩
  obtain ⟨y1, hy1⟩ : ∃ y, y = cmI n n' := ⟨_, rfl⟩
  have HY : Hid (cmI a a' = y0 ∧ cmI n n' = y1) := ⟨hy0.symm, hy1.symm⟩
  have HN : Hid (cmA a n a' n' = orL [y0, y1]) := Hid.intro (by rw [hy0]; rw [hy1]; rfl)
  rw [← hy0, ← hy1]
  clear hy0 hy1
  go_enter Try.func121, Try.ntmps121
  go_upto_region 1 with fail
  rw [← HE.out]
  refine wp_region_noPanic ?_
  refine wp_region_held_drew (S := fun W => Bx W w.heap.size [.string v, .int .i64 a, .int .i64 n] ∧ Bx W (w.heap.size + 1) [.string v', .int .i64 a', .int .i64 n']) (by kernel_rfl) HB.out (fun hHeld => ?_)
  refine take_v (v := ?_) 0 ⟨some 5, Op.fieldAddr 113 (Operand.tmp 2) 1, _, _, _, none⟩ rfl (fun _ _ _ h => h) ?_ hHeld ?_
  rotate_left
  · (intro W _; go_simp <;> (try with_reducible rfl))
  refine take_v (v := ?_) 1 ⟨some 6, Op.load 3 (Operand.tmp 5), _, _, _, none⟩ rfl (fun _ _ _ h => h) ?_ hHeld ?_
  rotate_left
  · (intro W hSW; (have s0 := hSW.1.cell 0 rfl; have s1 := hSW.1.cell 1 rfl; have s2 := hSW.1.cell 2 rfl; have sz := hSW.1.2; have t0 := hSW.2.cell 0 rfl; have t1 := hSW.2.cell 1 rfl; have t2 := hSW.2.cell 2 rfl; have tz := hSW.2.2); go_simp <;> (try with_reducible rfl))
  refine take_v (v := ?_) 2 ⟨some 7, Op.fieldAddr 113 (Operand.tmp 3) 1, _, _, _, none⟩ rfl (fun _ _ _ h => h) ?_ hHeld ?_
  rotate_left
  · (intro W _; go_simp <;> (try with_reducible rfl))
  refine take_v (v := ?_) 3 ⟨some 8, Op.load 3 (Operand.tmp 7), _, _, _, none⟩ rfl (fun _ _ _ h => h) ?_ hHeld ?_
  rotate_left
  · (intro W hSW; (have s0 := hSW.1.cell 0 rfl; have s1 := hSW.1.cell 1 rfl; have s2 := hSW.1.cell 2 rfl; have sz := hSW.1.2; have t0 := hSW.2.cell 0 rfl; have t1 := hSW.2.cell 1 rfl; have t2 := hSW.2.cell 2 rfl; have tz := hSW.2.2); go_simp <;> (try with_reducible rfl))
  refine take_v (v := ?_) 5 ⟨some 10, Op.fieldAddr 113 (Operand.tmp 2) 2, _, _, _, none⟩ rfl (fun _ _ _ h => h) ?_ hHeld ?_
  rotate_left
  · (intro W _; go_simp <;> (try with_reducible rfl))
  refine take_v (v := ?_) 6 ⟨some 11, Op.load 3 (Operand.tmp 10), _, _, _, none⟩ rfl (fun _ _ _ h => h) ?_ hHeld ?_
  rotate_left
  · (intro W hSW; (have s0 := hSW.1.cell 0 rfl; have s1 := hSW.1.cell 1 rfl; have s2 := hSW.1.cell 2 rfl; have sz := hSW.1.2; have t0 := hSW.2.cell 0 rfl; have t1 := hSW.2.cell 1 rfl; have t2 := hSW.2.cell 2 rfl; have tz := hSW.2.2); go_simp <;> (try with_reducible rfl))
  refine take_v (v := ?_) 7 ⟨some 12, Op.fieldAddr 113 (Operand.tmp 3) 2, _, _, _, none⟩ rfl (fun _ _ _ h => h) ?_ hHeld ?_
  rotate_left
  · (intro W _; go_simp <;> (try with_reducible rfl))
  refine take_v (v := ?_) 8 ⟨some 13, Op.load 3 (Operand.tmp 12), _, _, _, none⟩ rfl (fun _ _ _ h => h) ?_ hHeld ?_
  rotate_left
  · (intro W hSW; (have s0 := hSW.1.cell 0 rfl; have s1 := hSW.1.cell 1 rfl; have s2 := hSW.1.cell 2 rfl; have sz := hSW.1.2; have t0 := hSW.2.cell 0 rfl; have t1 := hSW.2.cell 1 rfl; have t2 := hSW.2.cell 2 rfl; have tz := hSW.2.2); go_simp <;> (try with_reducible rfl))
  refine ready_call 4 ⟨some 9, Op.call { callee := Callee.value (Operand.func 115), args := #[Operand.tmp 6, Operand.tmp 8], argTypes := #[3, 3] }, _, _, _, none⟩ (by kernel_rfl) rfl (by kernel_rfl) (fun KC hK => ?_)
  go_wp2_with fail
  refine (cmpInt_n a a' _).mono ?_
  rintro r w' ⟨rfl, hw'⟩
  have hw' := hw'.symm
  subst hw'
  rw [HY.out.1]
  refine hK.out _ _ HB.out (fun hHeld => ?_)
  clear hK KC
  refine ready_call 9 ⟨some 14, Op.call { callee := Callee.value (Operand.func 115), args := #[Operand.tmp 11, Operand.tmp 13], argTypes := #[3, 3] }, _, _, _, none⟩ (by kernel_rfl) rfl (by kernel_rfl) (fun KC hK => ?_)
  go_wp2_with fail
  refine (cmpInt_n n n' _).mono ?_
  rintro r w' ⟨rfl, hw'⟩
  have hw' := hw'.symm
  subst hw'
  rw [HY.out.2]
  refine hK.out _ _ HB.out (fun hHeld => ?_)
  clear hK KC
  refine ready_call 10 ⟨some 15, Op.buildSlice 23 2 #[(0, Operand.tmp 9), (1, Operand.tmp 14)], _, _, _, none⟩ (by kernel_rfl) rfl (by kernel_rfl) (fun KC hK => ?_)
  go_wp2_with fail
  have hb := Go.Joins.below_alloc1 w0.drew (.cells #[.int .i64 y0, .int .i64 y1] 3)
  have HB9 := Hid.intro (show _ ∧ _ from ⟨HB.out.1.next hb, HB.out.2.next hb⟩)
  have HC9 : Hid (∀ k, k < 2 → (w0.drew.alloc (.cells #[.int .i64 y0, .int .i64 y1] 3)).cell? ⟨w0.drew.heap.size, k, none⟩ = some (.int .i64 (atI [y0, y1] k))) := Hid.intro (lit_cells (W := w0.drew) (v := [y0, y1]))
  clear hb
  refine hK.out _ _ HB9.out (fun hHeld => ?_)
  clear hK KC
  refine ready_call 11 ⟨some 16, Op.call { callee := Callee.value (Operand.func 114), args := #[Operand.tmp 15], argTypes := #[23] }, _, _, _, none⟩ (by kernel_rfl) rfl (by kernel_rfl) (fun KC hK => ?_)
  go_wp2_with fail
  refine (cmpOr_n w0.drew.heap.size 2 2 [y0, y1] _ rfl (by decide) (by simp) HC9.out).mono ?_
  rintro r w' ⟨rfl, hw'⟩
  have hw' := hw'.symm
  subst hw'
  refine hK.out _ _ HB9.out (fun hHeld => ?_)
  clear hK KC
  refine take_v (v := ?_) 12 ⟨some 4, Op.assign (Operand.tmp 16), _, _, _, none⟩ rfl (fun _ _ _ h => h) ?_ hHeld ?_
  rotate_left
  · (intro W _; go_simp <;> (try with_reducible rfl))
  refine wpAnyH_done (by kernel_rfl) ?_ _
  refine NoPanic.normal ?_
  clear hHeld
  go_wp2
  go_ret
  exact ⟨(congrArg (fun n => Ending.returned (.int .i64 n)) HN.out).symm, rfl⟩
set_option maxRecDepth 100000 in
set_option maxHeartbeats 1000000 in
theorem compareLatest_n (v : ByteArray) (t a : Int) (v' : ByteArray) (t' a' : Int) (w : World) :
    Calls Try.prog 73 #[.agg #[.string v, .int .i64 t, .int .i64 a], .agg #[.string v', .int .i64 t', .int .i64 a']] w fun r w' => r = .returned (.int .i64 (cmL v t a v' t' a')) ∧ w' = (((w.alloc (.cells #[.string v, .int .i64 t, .int .i64 a] 39)).alloc (.cells #[.string v', .int .i64 t', .int .i64 a'] 39)).drew.alloc (.cells #[.int .i64 (cmI t t'), .int .i64 (cmI a a'), .int .i64 (Lib.compareBytes v.toList v'.toList)] 3)) := by
  obtain ⟨w0, hw0⟩ : ∃ x, x = (w.alloc (.cells #[.string v, .int .i64 t, .int .i64 a] 39)).alloc (.cells #[.string v', .int .i64 t', .int .i64 a'] 39) := ⟨_, rfl⟩
  have HE := Hid.intro hw0
  rw [← hw0]
  have HB : Hid (Bx w0.drew w.heap.size [.string v, .int .i64 t, .int .i64 a] ∧ Bx w0.drew (w.heap.size + 1) [.string v', .int .i64 t', .int .i64 a']) := by
    have e0 : Bx w0 w.heap.size [.string v, .int .i64 t, .int .i64 a] := hw0 ▸ (Bx.new w [_, _, _] _).alloc _
    have e1 : Bx w0 (w.heap.size + 1) [.string v', .int .i64 t', .int .i64 a'] := hw0 ▸ Bx.newAt (by simp)
    exact ⟨e0.next (below_drew _), e1.next (below_drew _)⟩
  have HS : Hid (w0.heap.size = w.heap.size + 1 + 1) := Hid.intro (by rw [hw0]; simp)
  clear hw0
  obtain ⟨y0, hy0⟩ : ∃ y, y = cmI t t' := ⟨_, rfl⟩
  obtain ⟨y1, hy1⟩ : ∃ y, y = cmI a a' := ⟨_, rfl⟩
  obtain ⟨y2, hy2⟩ : ∃ y, y = Lib.compareBytes v.toList v'.toList := ⟨_, rfl⟩
  have HY : Hid (cmI t t' = y0 ∧ cmI a a' = y1 ∧ Lib.compareBytes v.toList v'.toList = y2) := ⟨hy0.symm, hy1.symm, hy2.symm⟩
  have HN : Hid (cmL v t a v' t' a' = orL [y0, y1, y2]) := Hid.intro (by rw [hy0]; rw [hy1]; rw [hy2]; rfl)
  rw [← hy0, ← hy1, ← hy2]
  clear hy0 hy1 hy2
  go_enter Try.func73, Try.ntmps73
  go_upto_region 1 with fail
  rw [← HE.out]
  refine wp_region_noPanic ?_
  refine wp_region_held_drew (S := fun W => Bx W w.heap.size [.string v, .int .i64 t, .int .i64 a] ∧ Bx W (w.heap.size + 1) [.string v', .int .i64 t', .int .i64 a']) (by kernel_rfl) HB.out (fun hHeld => ?_)
  refine take_v (v := ?_) 0 ⟨some 5, Op.fieldAddr 39 (Operand.tmp 2) 1, _, _, _, none⟩ rfl (fun _ _ _ h => h) ?_ hHeld ?_
  rotate_left
  · (intro W _; go_simp <;> (try with_reducible rfl))
  refine take_v (v := ?_) 1 ⟨some 6, Op.load 3 (Operand.tmp 5), _, _, _, none⟩ rfl (fun _ _ _ h => h) ?_ hHeld ?_
  rotate_left
  · (intro W hSW; (have s0 := hSW.1.cell 0 rfl; have s1 := hSW.1.cell 1 rfl; have s2 := hSW.1.cell 2 rfl; have sz := hSW.1.2; have t0 := hSW.2.cell 0 rfl; have t1 := hSW.2.cell 1 rfl; have t2 := hSW.2.cell 2 rfl; have tz := hSW.2.2); go_simp <;> (try with_reducible rfl))
  refine take_v (v := ?_) 2 ⟨some 7, Op.fieldAddr 39 (Operand.tmp 3) 1, _, _, _, none⟩ rfl (fun _ _ _ h => h) ?_ hHeld ?_
  rotate_left
  · (intro W _; go_simp <;> (try with_reducible rfl))
  refine take_v (v := ?_) 3 ⟨some 8, Op.load 3 (Operand.tmp 7), _, _, _, none⟩ rfl (fun _ _ _ h => h) ?_ hHeld ?_
  rotate_left
  · (intro W hSW; (have s0 := hSW.1.cell 0 rfl; have s1 := hSW.1.cell 1 rfl; have s2 := hSW.1.cell 2 rfl; have sz := hSW.1.2; have t0 := hSW.2.cell 0 rfl; have t1 := hSW.2.cell 1 rfl; have t2 := hSW.2.cell 2 rfl; have tz := hSW.2.2); go_simp <;> (try with_reducible rfl))
  refine take_v (v := ?_) 5 ⟨some 10, Op.fieldAddr 39 (Operand.tmp 2) 2, _, _, _, none⟩ rfl (fun _ _ _ h => h) ?_ hHeld ?_
  rotate_left
  · (intro W _; go_simp <;> (try with_reducible rfl))
  refine take_v (v := ?_) 6 ⟨some 11, Op.load 3 (Operand.tmp 10), _, _, _, none⟩ rfl (fun _ _ _ h => h) ?_ hHeld ?_
  rotate_left
  · (intro W hSW; (have s0 := hSW.1.cell 0 rfl; have s1 := hSW.1.cell 1 rfl; have s2 := hSW.1.cell 2 rfl; have sz := hSW.1.2; have t0 := hSW.2.cell 0 rfl; have t1 := hSW.2.cell 1 rfl; have t2 := hSW.2.cell 2 rfl; have tz := hSW.2.2); go_simp <;> (try with_reducible rfl))
  refine take_v (v := ?_) 7 ⟨some 12, Op.fieldAddr 39 (Operand.tmp 3) 2, _, _, _, none⟩ rfl (fun _ _ _ h => h) ?_ hHeld ?_
  rotate_left
  · (intro W _; go_simp <;> (try with_reducible rfl))
  refine take_v (v := ?_) 8 ⟨some 13, Op.load 3 (Operand.tmp 12), _, _, _, none⟩ rfl (fun _ _ _ h => h) ?_ hHeld ?_
  rotate_left
  · (intro W hSW; (have s0 := hSW.1.cell 0 rfl; have s1 := hSW.1.cell 1 rfl; have s2 := hSW.1.cell 2 rfl; have sz := hSW.1.2; have t0 := hSW.2.cell 0 rfl; have t1 := hSW.2.cell 1 rfl; have t2 := hSW.2.cell 2 rfl; have tz := hSW.2.2); go_simp <;> (try with_reducible rfl))
  refine take_v (v := ?_) 10 ⟨some 15, Op.fieldAddr 39 (Operand.tmp 2) 0, _, _, _, none⟩ rfl (fun _ _ _ h => h) ?_ hHeld ?_
  rotate_left
  · (intro W _; go_simp <;> (try with_reducible rfl))
  refine take_v (v := ?_) 11 ⟨some 16, Op.load 9 (Operand.tmp 15), _, _, _, none⟩ rfl (fun _ _ _ h => h) ?_ hHeld ?_
  rotate_left
  · (intro W hSW; (have s0 := hSW.1.cell 0 rfl; have s1 := hSW.1.cell 1 rfl; have s2 := hSW.1.cell 2 rfl; have sz := hSW.1.2; have t0 := hSW.2.cell 0 rfl; have t1 := hSW.2.cell 1 rfl; have t2 := hSW.2.cell 2 rfl; have tz := hSW.2.2); go_simp <;> (try with_reducible rfl))
  refine take_v (v := ?_) 12 ⟨some 17, Op.fieldAddr 39 (Operand.tmp 3) 0, _, _, _, none⟩ rfl (fun _ _ _ h => h) ?_ hHeld ?_
  rotate_left
  · (intro W _; go_simp <;> (try with_reducible rfl))
  refine take_v (v := ?_) 13 ⟨some 18, Op.load 9 (Operand.tmp 17), _, _, _, none⟩ rfl (fun _ _ _ h => h) ?_ hHeld ?_
  rotate_left
  · (intro W hSW; (have s0 := hSW.1.cell 0 rfl; have s1 := hSW.1.cell 1 rfl; have s2 := hSW.1.cell 2 rfl; have sz := hSW.1.2; have t0 := hSW.2.cell 0 rfl; have t1 := hSW.2.cell 1 rfl; have t2 := hSW.2.cell 2 rfl; have tz := hSW.2.2); go_simp <;> (try with_reducible rfl))
  refine ready_call 4 ⟨some 9, Op.call { callee := Callee.value (Operand.func 115), args := #[Operand.tmp 6, Operand.tmp 8], argTypes := #[3, 3] }, _, _, _, none⟩ (by kernel_rfl) rfl (by kernel_rfl) (fun KC hK => ?_)
  go_wp2_with fail
  refine (cmpInt_n t t' _).mono ?_
  rintro r w' ⟨rfl, hw'⟩
  have hw' := hw'.symm
  subst hw'
  rw [HY.out.1]
  refine hK.out _ _ HB.out (fun hHeld => ?_)
  clear hK KC
  refine ready_call 9 ⟨some 14, Op.call { callee := Callee.value (Operand.func 115), args := #[Operand.tmp 11, Operand.tmp 13], argTypes := #[3, 3] }, _, _, _, none⟩ (by kernel_rfl) rfl (by kernel_rfl) (fun KC hK => ?_)
  go_wp2_with fail
  refine (cmpInt_n a a' _).mono ?_
  rintro r w' ⟨rfl, hw'⟩
  have hw' := hw'.symm
  subst hw'
  rw [HY.out.2.1]
  refine hK.out _ _ HB.out (fun hHeld => ?_)
  clear hK KC
  refine ready_call 14 ⟨some 19, Op.call { callee := Callee.value (Operand.func 116), args := #[Operand.tmp 16, Operand.tmp 18], argTypes := #[9, 9] }, _, _, _, none⟩ (by kernel_rfl) rfl (by kernel_rfl) (fun KC hK => ?_)
  go_wp2_with fail
  refine (compare_any v v' _).mono ?_
  rintro r w' ⟨rfl, hw'⟩
  have hw' := hw'.symm
  subst hw'
  rw [HY.out.2.2]
  refine hK.out _ _ HB.out (fun hHeld => ?_)
  clear hK KC
  refine ready_call 15 ⟨some 20, Op.buildSlice 23 3 #[(0, Operand.tmp 9), (1, Operand.tmp 14), (2, Operand.tmp 19)], _, _, _, none⟩ (by kernel_rfl) rfl (by kernel_rfl) (fun KC hK => ?_)
  go_wp2_with fail
  have hb := Go.Joins.below_alloc1 w0.drew (.cells #[.int .i64 y0, .int .i64 y1, .int .i64 y2] 3)
  have HB9 := Hid.intro (show _ ∧ _ from ⟨HB.out.1.next hb, HB.out.2.next hb⟩)
  have HC9 : Hid (∀ k, k < 3 → (w0.drew.alloc (.cells #[.int .i64 y0, .int .i64 y1, .int .i64 y2] 3)).cell? ⟨w0.drew.heap.size, k, none⟩ = some (.int .i64 (atI [y0, y1, y2] k))) := Hid.intro (lit_cells (W := w0.drew) (v := [y0, y1, y2]))
  clear hb
  refine hK.out _ _ HB9.out (fun hHeld => ?_)
  clear hK KC
  refine ready_call 16 ⟨some 21, Op.call { callee := Callee.value (Operand.func 114), args := #[Operand.tmp 20], argTypes := #[23] }, _, _, _, none⟩ (by kernel_rfl) rfl (by kernel_rfl) (fun KC hK => ?_)
  go_wp2_with fail
  refine (cmpOr_n w0.drew.heap.size 3 3 [y0, y1, y2] _ rfl (by decide) (by simp) HC9.out).mono ?_
  rintro r w' ⟨rfl, hw'⟩
  have hw' := hw'.symm
  subst hw'
  refine hK.out _ _ HB9.out (fun hHeld => ?_)
  clear hK KC
  refine take_v (v := ?_) 17 ⟨some 4, Op.assign (Operand.tmp 21), _, _, _, none⟩ rfl (fun _ _ _ h => h) ?_ hHeld ?_
  rotate_left
  · (intro W _; go_simp <;> (try with_reducible rfl))
  refine wpAnyH_done (by kernel_rfl) ?_ _
  refine NoPanic.normal ?_
  clear hHeld
  go_wp2
  go_ret
  exact ⟨(congrArg (fun n => Ending.returned (.int .i64 n)) HN.out).symm, rfl⟩
end Go.Proofs.Ytnglgndocmkbfaa
