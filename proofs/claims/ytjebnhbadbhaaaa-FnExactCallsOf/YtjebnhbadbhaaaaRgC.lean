/- Registers: isBusy, timesOf, areUnlike; slices.Contains at numbers. -/
import Derived.Test.YtjebnhbadbhaaaaRgB
import Derived.Test.YtjebnhbadbhaaaaShA
namespace Go.Proofs.Ytjebnhbadbhaaaa
open Go.RowKit
set_option linter.unusedVariables false

theorem Bx.grow {w w' : World} {row : Option Nat} {g : Nat} {vs : List Value} (h : Bx w g vs) (hg : w.grownBy w' row) (hne : some g ≠ row) : Bx w' g vs :=
  ⟨fun j hj => ⟨(hg.cell_far ⟨g, j, none⟩ h.2 hne).trans (h.1 j hj).1, (hg.frozen_far ⟨g, j, none⟩ h.2 hne).trans (h.1 j hj).2⟩, Nat.lt_of_lt_of_le h.2 hg.size⟩
def bsyP (l : List (Sh.T shRegOp)) (c : Int) : Prop := ∃ o ∈ l, RgO.cl o = c ∧ RgO.ph o ≠ 3

set_option maxRecDepth 100000 in
set_option maxHeartbeats 2000000 in
theorem isBusy_n (a : Option Addr) (cap : Nat) (l : List (Sh.T shRegOp)) (c : Int) (w : World) (hn : l.length ≤ 1000) (h : Lies w (.list shRegOp) [.slice a l.length cap] l) :
    Calls Try.prog 58 #[.slice a l.length cap, .int .i64 c] w fun r w' => r = .returned (.bool (tf (bsyP l c))) ∧ Below w.heap.size w w' := by
  have HL : Hid (Lies w (.list shRegOp) [.slice a l.length cap] l) := h
  clear h
  obtain ⟨n, hnn⟩ : ∃ n, n = l.length := ⟨_, rfl⟩
  have HN : Hid (n = l.length) := hnn
  rw [← hnn] at hn ⊢
  clear hnn
  go_enter Try.func58, Try.ntmps58
  go_wp2
  go_loopw [9] (fun i wr => ∃ k : Nat, k ≤ n ∧ i = .int .i64 k ∧ (∀ o ∈ l.take k, ¬ (RgO.cl o = c ∧ RgO.ph o ≠ 3)) ∧ Below w.heap.size w wr) (fun i _ => n - (intOf i).toNat)
  case atStart => exact ⟨0, Nat.zero_le _, rfl, fun o ho => by simp at ho, Below.refl _ _⟩
  case round =>
    obtain ⟨k, hk, rfl, hno, hBr⟩ := hrel
    by_cases hlt : k < n
    · have hlx : k < l.length := by have := HN.out; omega
      have hlt' : (k : Int) < (n : Int) := by omega
      obtain ⟨xg, xoff, xgo, xgs, xec, xel, xhec, xle⟩ := Lies.elem (HL.out.next hBr) hlx
      subst xgo
      rcases xX : l[k] with ⟨x0, x1, x2, x3, x4, ⟨x5, x6, x7, ⟨⟩⟩, x8, x9, ⟨⟩⟩
      rw [xX] at xle
      have xH : Hid (l[k] = (x0, x1, x2, x3, x4, (x5, x6, x7, ()), x8, x9, ())) := xX
      clear xX
      obtain ⟨xa1, xk1, xev, xq1⟩ := lies_RegOp xle
      subst xev
      have xc0 : wr.cell? ⟨xg, xoff + k * 10, none⟩ = some (.int .i64 x0) := xhec 0 (by simp)
      have xc1 : wr.cell? ⟨xg, xoff + k * 10 + 1, none⟩ = some (.bool x1) := xhec 1 (by simp)
      have xc2 : wr.cell? ⟨xg, xoff + k * 10 + 2, none⟩ = some (.string x2) := xhec 2 (by simp)
      have xc3 : wr.cell? ⟨xg, xoff + k * 10 + 3, none⟩ = some (.int .i64 x3) := xhec 3 (by simp)
      have xc4 : wr.cell? ⟨xg, xoff + k * 10 + 4, none⟩ = some (.slice xa1 x4.length xk1) := xhec 4 (by simp)
      have xc5 : wr.cell? ⟨xg, xoff + k * 10 + 5, none⟩ = some (.int .i64 x5) := xhec 5 (by simp)
      have xc6 : wr.cell? ⟨xg, xoff + k * 10 + 6, none⟩ = some (.int .i64 x6) := xhec 6 (by simp)
      have xc7 : wr.cell? ⟨xg, xoff + k * 10 + 7, none⟩ = some (.string x7) := xhec 7 (by simp)
      have xc8 : wr.cell? ⟨xg, xoff + k * 10 + 8, none⟩ = some (.int .i64 x8) := xhec 8 (by simp)
      have xc9 : wr.cell? ⟨xg, xoff + k * 10 + 9, none⟩ = some (.int .i64 x9) := xhec 9 (by simp)
      clear xhec xel xle
      have HB : Hid (Below w.heap.size w wr ∧ ∀ o ∈ l.take k, ¬ (RgO.cl o = c ∧ RgO.ph o ≠ 3)) := ⟨hBr, hno⟩
      clear hBr hno xq1
      by_cases e1 : x0 = c
      · have e1' : (x0 == c) = true := by simpa using e1
        by_cases e2 : x3 = 3
        · have e2' : (x3 != 3) = false := by simpa using e2
          have HS : Hid (¬ (RgO.cl l[k] = c ∧ RgO.ph l[k] ≠ 3)) := Hid.intro (fun q => by have := q.2; rw [xH.out] at this; exact this e2)
          clear e1 e2
          go_wp2
          go_roundw
          case rel => exact ⟨k + 1, by omega, by go_num, mem_take_succ hlx HB.out.2 HS.out, HB.out.1.alloc HB.out.1.size _⟩
          case measure => simp [intOf]; omega
        · have e2' : (x3 != 3) = true := by simpa using e2
          have HS : Hid (tf (bsyP l c) = true) := Hid.intro (tf_yes ⟨l[k], List.getElem_mem hlx, by rw [xH.out]; exact e1, by rw [xH.out]; exact e2⟩)
          clear e1 e2
          go_wp2
          go_ret
          exact ⟨ret_bool HS.out.symm, HB.out.1.alloc HB.out.1.size _⟩
      · have e1' : (x0 == c) = false := by simpa using e1
        have HS : Hid (¬ (RgO.cl l[k] = c ∧ RgO.ph l[k] ≠ 3)) := Hid.intro (fun q => by have := q.1; rw [xH.out] at this; exact e1 this)
        clear e1
        go_wp2
        go_roundw
        case rel => exact ⟨k + 1, by omega, by go_num, mem_take_succ hlx HB.out.2 HS.out, HB.out.1.alloc HB.out.1.size _⟩
        case measure => simp [intOf]; omega
    · have hkn : k = n := by omega
      have HS : Hid (tf (bsyP l c) = false) := Hid.intro (tf_no (fun ⟨o, ho, q⟩ => hno o (by rw [hkn, HN.out, List.take_length]; exact ho) q))
      have HB : Hid (Below w.heap.size w wr) := hBr
      clear hno hBr hkn
      go_wp2
      go_ret
      exact ⟨ret_bool HS.out.symm, HB.out⟩

set_option maxRecDepth 100000 in
set_option maxHeartbeats 2000000 in
theorem indexInt_n (a : Option Addr) (cap : Nat) (l : List (Sh.T .int)) (c : Int) (w : World) (hn : l.length ≤ 1073741824) (h : Lies w (.list .int) [.slice a l.length cap] l) :
    Calls Try.prog 119 #[.slice a l.length cap, .int .i64 c] w fun r w' => (∃ x : Int, r = .returned (.int .i64 x) ∧ (0 ≤ x ↔ c ∈ l)) ∧ w' = w := by
  have HL : Hid (Lies w (.list .int) [.slice a l.length cap] l) := h
  clear h
  obtain ⟨n, hnn⟩ : ∃ n, n = l.length := ⟨_, rfl⟩
  have HN : Hid (n = l.length) := hnn
  rw [← hnn] at hn ⊢
  clear hnn
  go_enter Try.func119, Try.ntmps119
  go_wp2
  go_loopw [8] (fun i wr => ∃ k : Nat, k ≤ n ∧ i = .int .i64 k ∧ (∀ o ∈ l.take k, o ≠ c) ∧ wr = w) (fun i _ => n - (intOf i).toNat)
  case atStart => exact ⟨0, Nat.zero_le _, rfl, fun o ho => by simp at ho, rfl⟩
  case round =>
    obtain ⟨k, hk, rfl, hno, rfl⟩ := hrel
    have HO : Hid (∀ o ∈ l.take k, o ≠ c) := hno
    clear hno
    by_cases hlt : k < n
    · have hlx : k < l.length := by have := HN.out; omega
      have hlt' : (k : Int) < (n : Int) := by omega
      obtain ⟨g, off, hgo, hgs, ec, hel, hec, hle⟩ := Lies.elem HL.out hlx
      subst hgo
      have hev : ec = [.int .i64 l[k]] := hle
      subst hev
      have c0 : wr.cell? ⟨g, off + k, none⟩ = some (.int .i64 l[k]) := by have := hec 0 (by simp); simpa [Sh.c] using this
      clear hec hel hle
      obtain ⟨y, hy⟩ : ∃ y, y = l[k] := ⟨_, rfl⟩
      have HY : Hid (y = l[k]) := hy
      rw [← hy] at c0
      clear hy
      by_cases e : c = y
      · have e' : (c == y) = true := by simpa using e
        have HS : Hid (0 ≤ (k : Int) ↔ c ∈ l) := Hid.intro ⟨fun _ => by rw [e, HY.out]; exact List.getElem_mem hlx, fun _ => by omega⟩
        clear e
        go_wp2
        go_ret
        exact ⟨⟨_, rfl, HS.out⟩, rfl⟩
      · have e' : (c == y) = false := by simpa using e
        have HS : Hid (l[k] ≠ c) := Hid.intro (fun q => e (by rw [HY.out, q]))
        clear e
        go_wp2
        go_roundw
        case rel => exact ⟨k + 1, by omega, by go_num, mem_take_succ hlx HO.out HS.out, trivial⟩
        case measure => simp [intOf]; omega
    · have hkn : k = n := by omega
      have HS : Hid (0 ≤ (-1 : Int) ↔ c ∈ l) := Hid.intro ⟨fun q => absurd q (by decide), fun q => absurd rfl (HO.out c (by rw [hkn, HN.out, List.take_length]; exact q))⟩
      clear hkn
      go_wp2
      go_ret
      exact ⟨⟨_, rfl, HS.out⟩, rfl⟩

set_option maxHeartbeats 2000000 in
theorem containsInt_n (a : Option Addr) (cap : Nat) (l : List (Sh.T .int)) (c : Int) (w : World) (hn : l.length ≤ 1073741824) (h : Lies w (.list .int) [.slice a l.length cap] l) :
    Calls Try.prog 100 #[.slice a l.length cap, .int .i64 c] w fun r w' => r = .returned (.bool (tf (c ∈ l))) ∧ w' = w := by
  go_enter Try.func100, Try.ntmps100
  go_wp2_with fail
  refine (indexInt_n a cap l c _ hn h).mono ?_
  rintro r w1 ⟨⟨x, rfl, hx⟩, hw⟩
  have hw := hw.symm
  subst hw
  have HX : Hid (0 ≤ x ↔ c ∈ l) := hx
  clear hx
  go_wp2
  go_ret
  exact ⟨ret_bool (by rw [Bool.eq_iff_iff, tf_iff, ← HX.out]; simp), rfl⟩

set_option maxRecDepth 100000 in
set_option maxHeartbeats 2000000 in
theorem areUnlike_n (a : Option Addr) (cap : Nat) (l : List (Sh.T .int)) (w : World) (hn : l.length ≤ 1000) (hc : l.length ≤ cap) (hc2 : cap ≤ 9223372036854775807) (h : Lies w (.list .int) [.slice a l.length cap] l) :
    Calls Try.prog 59 #[.slice a l.length cap] w fun r w' => r = .returned (.bool (tf l.Nodup)) ∧ w' = w := by
  have HL : Hid (Lies w (.list .int) [.slice a l.length cap] l) := h
  clear h
  obtain ⟨n, hnn⟩ : ∃ n, n = l.length := ⟨_, rfl⟩
  have HN : Hid (n = l.length) := hnn
  rw [← hnn] at hn hc ⊢
  clear hnn
  go_enter Try.func59, Try.ntmps59
  go_wp2
  go_loopw [7] (fun i wr => ∃ k : Nat, k ≤ n ∧ i = .int .i64 k ∧ (l.take k).Nodup ∧ wr = w) (fun i _ => n - (intOf i).toNat)
  case atStart => exact ⟨0, Nat.zero_le _, rfl, by simp, rfl⟩
  case round =>
    obtain ⟨k, hk, rfl, hnd, rfl⟩ := hrel
    have HO : Hid ((l.take k).Nodup) := hnd
    clear hnd
    by_cases hlt : k < n
    · have hlx : k < l.length := by have := HN.out; omega
      have hlt' : (k : Int) < (n : Int) := by omega
      obtain ⟨g, off, hgo, hgs, ec, hel, hec, hle⟩ := Lies.elem HL.out hlx
      subst hgo
      have hev : ec = [.int .i64 l[k]] := hle
      subst hev
      have c0 : wr.cell? ⟨g, off + k, none⟩ = some (.int .i64 l[k]) := by have := hec 0 (by simp); simpa [Sh.c] using this
      clear hec hel hle
      obtain ⟨y, hy⟩ : ∃ y, y = l[k] := ⟨_, rfl⟩
      have HY : Hid (y = l[k]) := hy
      rw [← hy] at c0
      clear hy
      have htl : (l.take k).length = k := by rw [List.length_take]; omega
      have HT : Hid (Lies wr (.list .int) [.slice (some ⟨g, off, none⟩) (l.take k).length cap] (l.take k) ∧ (l.take k).length ≤ 1073741824) := ⟨by rw [htl]; exact HL.out.take k (by omega), by omega⟩
      have HTL : Hid ((l.take k).length = k) := htl
      clear htl
      have HCC : Hid (∀ W, W = wr → Calls Try.prog 100 #[.slice (some ⟨g, off, none⟩) k cap, .int .i64 y] W fun r w' => r = .returned (.bool (tf (y ∈ l.take k))) ∧ w' = W) := Hid.intro (fun W hW => by
        subst hW
        have := containsInt_n (some ⟨g, off, none⟩) cap (l.take k) y W HT.out.2 HT.out.1
        rwa [HTL.out] at this)
      go_wp2_with fail
      refine (HCC.out _ rfl).mono ?_
      rintro r w1 ⟨rfl, hw⟩
      have hw := hw.symm
      subst hw
      by_cases e : y ∈ l.take k
      · rw [tf_yes e]
        have HS : Hid (tf l.Nodup = false) := Hid.intro (tf_no (fun q => pair_take_no (R := (· ≠ ·)) hlx e (fun q2 => q2 HY.out) q))
        go_wp2
        go_ret
        exact ⟨ret_bool HS.out.symm, rfl⟩
      · rw [tf_no e]
        have HS : Hid ((l.take (k + 1)).Nodup) := Hid.intro (pair_take_succ (R := (· ≠ ·)) hlx HO.out (fun o ho q => e (by rw [HY.out, ← q]; exact ho)))
        clear e
        go_wp2
        go_roundw
        case rel => exact ⟨k + 1, by omega, by go_num, HS.out, trivial⟩
        case measure => simp [intOf]; omega
    · have hkn : k = n := by omega
      have HS : Hid (tf l.Nodup = true) := Hid.intro (tf_yes (by have := HO.out; rwa [hkn, HN.out, List.take_length] at this))
      clear hkn
      go_wp2
      go_ret
      exact ⟨ret_bool HS.out.symm, rfl⟩
end Go.Proofs.Ytjebnhbadbhaaaa
