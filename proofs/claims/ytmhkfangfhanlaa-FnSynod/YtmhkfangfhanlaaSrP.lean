/- slices.BinarySearchFunc at promises, by their nodes. -/
import Derived.Test.YtmhkfangfhanlaaMgD
namespace Go.Proofs.Ytmhkfangfhanlaa
open Go.RowKit
set_option linter.unusedVariables false
set_option linter.unusedSimpArgs false

def cmpI (x y : Int) : Int := if x < y then -1 else if y < x then 1 else 0

set_option maxHeartbeats 1000000 in
theorem isNaNInt_n (x : Int) (w : World) : Calls Try.prog 140 #[.int .i64 x] w fun r w' => r = .returned (.bool false) ∧ w' = w := by
  go_enter Try.func140, Try.ntmps140
  go_wp2
  go_ret
  exact ⟨by simp, rfl⟩

set_option maxHeartbeats 1000000 in
theorem compareInt_n (x y : Int) (w : World) : Calls Try.prog 132 #[.int .i64 x, .int .i64 y] w fun r w' => r = .returned (.int .i64 (cmpI x y)) ∧ w' = w := by
  by_cases h1 : x < y
  · have HC : Hid (cmpI x y = -1) := Hid.intro (by unfold cmpI; rw [if_pos h1])
    go_enter Try.func132, Try.ntmps132
    go_wp2_with (go_at_call 140; refine (isNaNInt_n _ _).mono ?_; rintro e w' ⟨rfl, rfl⟩)
    go_ret
    exact ⟨by rw [HC.out]; rfl, rfl⟩
  · by_cases h2 : y < x
    · have HC : Hid (cmpI x y = 1) := Hid.intro (by unfold cmpI; rw [if_neg h1, if_pos h2])
      go_enter Try.func132, Try.ntmps132
      go_wp2_with (go_at_call 140; refine (isNaNInt_n _ _).mono ?_; rintro e w' ⟨rfl, rfl⟩)
      go_ret
      exact ⟨by rw [HC.out]; rfl, rfl⟩
    · have HC : Hid (cmpI x y = 0) := Hid.intro (by unfold cmpI; rw [if_neg h1, if_neg h2])
      go_enter Try.func132, Try.ntmps132
      go_wp2_with (go_at_call 140; refine (isNaNInt_n _ _).mono ?_; rintro e w' ⟨rfl, rfl⟩)
      go_ret
      exact ⟨by rw [HC.out]; rfl, rfl⟩

set_option maxHeartbeats 1000000 in
theorem comparePromise_n (n b : Int) (t : ByteArray) (x : Int) (w : World) : Calls Try.prog 122 #[.agg #[.int .i64 n, .int .i64 b, .string t], .int .i64 x] w fun r w' => r = .returned (.int .i64 (cmpI n x)) ∧ Below w.heap.size w w' := by
  go_enter Try.func122, Try.ntmps122
  go_wp2_with (go_at_call 132; refine (compareInt_n _ _ _).mono ?_; rintro e w' ⟨rfl, rfl⟩)
  go_ret
  exact ⟨rfl, (by repeat (first | refine Below.setCell ?_ (by (try simp) <;> omega) _ | refine Below.alloc ?_ (by (try simp) <;> omega) _ | refine Below.drew ?_ | assumption | exact Below.refl _ _ | refine Below.trans ?_ (Below.mono (by assumption) (by (try simp) <;> omega))))⟩
/-- How many promises are of lesser nodes. -/
def lsP (l : List (Sh.T shPromise)) (x : Int) : Nat := List.countP (fun a => decide (pnd a < x)) l
noncomputable def hsP (l : List (Sh.T shPromise)) (x : Int) : Bool := tf (∃ a ∈ l, pnd a = x)
theorem lsP_at {l : List (Sh.T shPromise)} (hr : l.Pairwise (fun x y => pnd x < pnd y)) {x : Int} {p : Nat} (hp : p ≤ l.length) (h1 : ∀ i (h : i < l.length), i < p → pnd l[i] < x) (h2 : ∀ i (h : i < l.length), p ≤ i → x ≤ pnd l[i]) : lsP l x = p := by
  unfold lsP
  have e : l = l.take p ++ l.drop p := (List.take_append_drop p l).symm
  rw [e, List.countP_append]
  have a1 : List.countP (fun a => decide (pnd a < x)) (l.take p) = (l.take p).length := by
    rw [List.countP_eq_length]
    intro a ha
    obtain ⟨i, hi, rfl⟩ := List.mem_iff_getElem.1 ha
    rw [List.length_take] at hi
    rw [List.getElem_take]
    exact decide_eq_true (h1 i (by omega) (by omega))
  have a2 : List.countP (fun a => decide (pnd a < x)) (l.drop p) = 0 := by
    rw [List.countP_eq_zero]
    intro a ha
    obtain ⟨i, hi, rfl⟩ := List.mem_iff_getElem.1 ha
    rw [List.length_drop] at hi
    rw [List.getElem_drop]
    intro q; have q1 := of_decide_eq_true q; have q2 := h2 (p + i) (by omega) (by omega); omega
  rw [a1, a2, List.length_take]; omega
theorem pw_at {l : List (Sh.T shPromise)} (hr : l.Pairwise (fun x y => pnd x < pnd y)) {i j : Nat} (hij : i < j) (hj : j < l.length) : pnd l[i] < pnd l[j] := List.pairwise_iff_getElem.1 hr i j (by omega) hj hij
theorem hsP_no {l : List (Sh.T shPromise)} {x : Int} {p : Nat} (h1 : ∀ i (h : i < l.length), i < p → pnd l[i] < x) (h2 : ∀ i (h : i < l.length), p ≤ i → x < pnd l[i]) : hsP l x = false := tf_no (by
  rintro ⟨a, ha, e⟩
  obtain ⟨i, hi, rfl⟩ := List.mem_iff_getElem.1 ha
  rcases Nat.lt_or_ge i p with q | q
  · have := h1 i hi q; omega
  · have := h2 i hi q; omega)

set_option maxRecDepth 100000 in
set_option maxHeartbeats 4000000 in
theorem searchPromise_n (a : Option Addr) (cap : Nat) (l : List (Sh.T shPromise)) (t : Int) (w : World) (hn : l.length ≤ 1000) (hr : l.Pairwise (fun x y => pnd x < pnd y)) (h : Lies w (.list shPromise) [.slice a l.length cap] l) :
    Calls Try.prog 121 #[.slice a l.length cap, .int .i64 t, .func (.func 122) #[] #[]] w fun r w' => r = .returned (.tuple #[.int .i64 (lsP l t : Nat), .bool (hsP l t)]) ∧ Below w.heap.size w w' := by
  have HL : Hid (Lies w (.list shPromise) [.slice a l.length cap] l) := h
  have HRI : Hid (l.Pairwise (fun x y => pnd x < pnd y)) := hr
  clear h hr
  obtain ⟨n, hnE⟩ : ∃ n, n = l.length := ⟨_, rfl⟩
  have HN : Hid (n = l.length) := hnE
  rw [← hnE] at hn ⊢
  clear hnE
  go_enter Try.func121, Try.ntmps121
  go_wp2
  go_loopw [9, 10] (fun i j wr => ∃ x y : Nat, x ≤ y ∧ y ≤ n ∧ i = .int .i64 x ∧ j = .int .i64 y ∧ (∀ q (h : q < l.length), q < x → pnd l[q] < t) ∧ (∀ q (h : q < l.length), y ≤ q → t ≤ pnd l[q]) ∧ Below w.heap.size w wr) (fun i j _ => (intOf j - intOf i).toNat)
  case atStart => exact ⟨0, n, Nat.zero_le _, Nat.le_refl _, rfl, rfl, fun q _ hq => absurd hq (by omega), fun q hq h1 => absurd hq (by have := HN.out; omega), Below.refl _ _⟩
  case round =>
    obtain ⟨x, y, hxy, hyn, rfl, rfl, hlo, hhi, hBr⟩ := hrel
    have HH : Hid ((∀ q (h : q < l.length), q < x → pnd l[q] < t) ∧ (∀ q (h : q < l.length), y ≤ q → t ≤ pnd l[q]) ∧ Below w.heap.size w wr) := ⟨hlo, hhi, hBr⟩
    by_cases hlt : x < y
    · have hlt' : (x : Int) < (y : Int) := by omega
      obtain ⟨h, hh⟩ : ∃ h : Nat, h = (x + y) / 2 := ⟨_, rfl⟩
      have hxh : x ≤ h := by omega
      have hhy : h < y := by omega
      have hlx : h < l.length := by have := HN.out; omega
      have HQ : Hid (h = (x + y) / 2) := hh
      have HLE : Hid (Lies wr (.list shPromise) [.slice a l.length cap] l) := HL.out.next hBr
      obtain ⟨xg, xoff, xgo, xgs, xec, xel, xhec, xle⟩ := Lies.elem (HLE.out) hlx
      subst xgo
      rcases xX : l[h] with ⟨x0, x1, x2, ⟨⟩⟩
      rw [xX] at xle
      have xH : Hid (l[h] = (x0, x1, x2, ())) := xX
      clear xX
      obtain xev := lies_Promise xle
      subst xev
      have xc0 : wr.cell? ⟨xg, xoff + h * 3, none⟩ = some (.int .i64 x0) := xhec 0 (by simp)
      have xc1 : wr.cell? ⟨xg, xoff + h * 3 + 1, none⟩ = some (.int .i64 x1) := xhec 1 (by simp)
      have xc2 : wr.cell? ⟨xg, xoff + h * 3 + 2, none⟩ = some (.string x2) := xhec 2 (by simp)
      clear xhec xel xle
      have HP : Hid (pnd l[h] = x0) := Hid.intro (by rw [xH.out]; rfl)
      clear hlo hhi hBr hh HLE
      go_upto_region 5 with fail
      rw [show ((x : Int) + (y : Int)) / 2 = (h : Int) from by have := HQ.out; omega]
      have hhn : (h : Int) < (n : Int) := by omega
      go_wp2_with fail
      refine (comparePromise_n x0 x1 x2 t _).mono ?_
      rintro r w1 ⟨rfl, hb1⟩
      have HB : Hid (Below w.heap.size w w1) := HH.out.2.2.trans (hb1.mono HH.out.2.2.size)
      clear hb1 xc0 xc1 xc2
      by_cases hl : x0 < t
      · have hz : cmpI x0 t = -1 := by unfold cmpI; rw [if_pos hl]
        have HX : Hid (∀ q (h' : q < l.length), q < h + 1 → pnd l[q] < t) := Hid.intro (fun q hq hqh => by
          by_cases e : q = h
          · subst e; rw [HP.out]; exact hl
          · have := pw_at HRI.out (show q < h by omega) hlx
            rw [HP.out] at this; exact Int.lt_trans this hl)
        rw [hz]
        clear hl hz
        go_wp2
        go_roundw
        case rel => exact ⟨h + 1, y, by omega, hyn, by go_num, rfl, HX.out, HH.out.2.1, HB.out⟩
        case measure => simp [intOf]; omega
      · have hz : ∃ z : Int, cmpI x0 t = z ∧ ¬ z < 0 := ⟨_, rfl, by unfold cmpI; rw [if_neg hl]; split <;> omega⟩
        obtain ⟨z, hz, hz2⟩ := hz
        have HX : Hid (∀ q (h' : q < l.length), h ≤ q → t ≤ pnd l[q]) := Hid.intro (fun q hq hqh => by
          by_cases e : q = h
          · subst e; rw [HP.out]; exact Int.not_lt.1 hl
          · have := pw_at HRI.out (show h < q by omega) hq
            rw [HP.out] at this; exact Int.le_trans (Int.not_lt.1 hl) (Int.le_of_lt this))
        rw [hz]
        clear hl hz
        go_wp2
        go_roundw
        case rel => exact ⟨x, h, hxh, by omega, rfl, rfl, HH.out.1, HX.out, HB.out⟩
        case measure => simp [intOf]; omega
    · have hxy' : x = y := by omega
      subst hxy'
      have HLS : Hid (lsP l t = x) := Hid.intro (lsP_at HRI.out (by have := HN.out; omega) hlo hhi)
      by_cases hxn : x < n
      · have hxn' : (x : Int) < (n : Int) := by omega
        have hlx : x < l.length := by have := HN.out; omega
        have HLE : Hid (Lies wr (.list shPromise) [.slice a l.length cap] l) := HL.out.next hBr
        obtain ⟨yg, yoff, ygo, ygs, yec, yel, yhec, yle⟩ := Lies.elem (HLE.out) hlx
        subst ygo
        rcases yX : l[x] with ⟨y0, y1, y2, ⟨⟩⟩
        rw [yX] at yle
        have yH : Hid (l[x] = (y0, y1, y2, ())) := yX
        clear yX
        obtain yev := lies_Promise yle
        subst yev
        have yc0 : wr.cell? ⟨yg, yoff + x * 3, none⟩ = some (.int .i64 y0) := yhec 0 (by simp)
        have yc1 : wr.cell? ⟨yg, yoff + x * 3 + 1, none⟩ = some (.int .i64 y1) := yhec 1 (by simp)
        have yc2 : wr.cell? ⟨yg, yoff + x * 3 + 2, none⟩ = some (.string y2) := yhec 2 (by simp)
        clear yhec yel yle
        have HP : Hid (pnd l[x] = y0) := Hid.intro (by rw [yH.out]; rfl)
        clear hlo hhi hBr HLE
        go_wp2_with fail
        refine (comparePromise_n y0 y1 y2 t _).mono ?_
        rintro r w1 ⟨rfl, hb1⟩
        have HB : Hid (Below w.heap.size w w1) := HH.out.2.2.trans (hb1.mono HH.out.2.2.size)
        clear hb1 yc0 yc1 yc2
        have hge : ¬ y0 < t := by have := HH.out.2.1 x hlx (Nat.le_refl _); rw [HP.out] at this; exact Int.not_lt.2 this
        by_cases he : y0 = t
        · have hz : cmpI y0 t = 0 := by unfold cmpI; rw [if_neg hge, if_neg (by rw [he]; exact Int.lt_irrefl _)]
          have HF : Hid (hsP l t = true) := Hid.intro (tf_yes ⟨l[x], List.getElem_mem hlx, by rw [HP.out]; exact he⟩)
          rw [hz]
          clear hz he hge
          go_wp2
          refine bodyPost_ret (v := .tuple #[.int .i64 (x : Int), .bool true]) (by simp [results, Try.results121, go_sem]) rfl ⟨?_, HB.out⟩
          rw [HLS.out, HF.out]
        · have hgt : t < y0 := by rcases Int.lt_or_eq_of_le (Int.not_lt.1 hge) with q | q; (· exact q); exact absurd q.symm he
          have hz : cmpI y0 t = 1 := by unfold cmpI; rw [if_neg hge, if_pos hgt]
          have HF : Hid (hsP l t = false) := Hid.intro (hsP_no (p := x) HH.out.1 (fun q hq hqx => by
            by_cases e : q = x
            · subst e; rw [HP.out]; exact hgt
            · have := pw_at HRI.out (show x < q by omega) hq
              rw [HP.out] at this; exact Int.lt_trans hgt this))
          rw [hz]
          clear hz he hge hgt
          go_wp2
          refine bodyPost_ret (v := .tuple #[.int .i64 (x : Int), .bool false]) (by simp [results, Try.results121, go_sem]) rfl ⟨?_, HB.out⟩
          rw [HLS.out, HF.out]
      · have hxn' : ¬ (x : Int) < (n : Int) := by omega
        have HF : Hid (hsP l t = false) := Hid.intro (hsP_no (p := x) hlo (fun q hq hqx => absurd hq (by have := HN.out; omega)))
        clear hlo hhi hBr
        go_wp2
        refine bodyPost_ret (v := .tuple #[.int .i64 (x : Int), .bool false]) (by simp [results, Try.results121, go_sem]) rfl ⟨?_, HH.out.2.2⟩
        rw [HLS.out, HF.out]
end Go.Proofs.Ytmhkfangfhanlaa
