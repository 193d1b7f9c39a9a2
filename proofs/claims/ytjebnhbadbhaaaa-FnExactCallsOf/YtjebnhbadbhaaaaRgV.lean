/- Registers: the calls of a register: callOf, cloneCall, and what CallsOf answers. -/
import Derived.Test.YtjebnhbadbhaaaaRgS
import Derived.Test.YtjebnhbadbhaaaaCln
namespace Go.Proofs.Ytjebnhbadbhaaaa
open Go.RowKit
set_option linter.unusedVariables false
set_option linter.unusedSimpArgs false

/-- The text of the one key. -/
def keyX : ByteArray := ⟨#[120]⟩
def caV (x1 : Bool) (x2 x7 : ByteArray) : ByteArray := if x1 then x2 else x7
def caE (x3 x9 : Int) (i : Nat) : Int := if x3 = 3 then x9 else 999000 + i
/-- Whether an op is told. -/
def caB (x1 : Bool) (x3 : Int) : Bool := x1 || x3 == 3
def caC (o : RgO) (i : Nat) : Sh.T shCall := (o.1, o.2.1, keyX, caV o.2.1 o.2.2.1 o.2.2.2.2.2.1.2.2.1, o.2.2.2.2.2.2.1, caE o.2.2.2.1 o.2.2.2.2.2.2.2.1 i, ())
def caK (os : List (Sh.T shRegOp)) : Nat → List (Sh.T shCall)
  | 0 => []
  | k + 1 => caK os k ++ (match os[k]? with | some o => if caB o.2.1 o.2.2.2.1 then [caC o k] else [] | none => [])
theorem caK_yes {os : List (Sh.T shRegOp)} {k : Nat} (h : k < os.length) (hb : caB os[k].2.1 os[k].2.2.2.1 = true) : caK os (k + 1) = caK os k ++ [caC os[k] k] := by
  have e : os[k]? = some os[k] := List.getElem?_eq_getElem h
  simp only [caK, e, hb, if_true]
theorem caK_no {os : List (Sh.T shRegOp)} {k : Nat} (h : k < os.length) (hb : caB os[k].2.1 os[k].2.2.2.1 = false) : caK os (k + 1) = caK os k := by
  have e : os[k]? = some os[k] := List.getElem?_eq_getElem h
  simp [caK, e, hb]
theorem caK_len (os : List (Sh.T shRegOp)) : ∀ k, (caK os k).length ≤ k
  | 0 => Nat.le_refl _
  | k + 1 => by
    have := caK_len os k
    simp only [caK]
    rw [List.length_append]
    cases os[k]? with
    | none => simp; omega
    | some o =>
      simp only
      split
      · simp; omega
      · simp; omega

set_option maxRecDepth 100000 in
set_option maxHeartbeats 1000000 in
theorem callOf_n (x0 : Int) (x1 : Bool) (x2 : ByteArray) (x3 : Int) (a : Option Addr) (n k : Nat) (x5 x6 : Int) (x7 : ByteArray) (x8 x9 : Int) (i : Nat) (w : World) (hi : i ≤ 1000) :
    Calls Try.prog 50 #[.agg #[.int .i64 x0, .bool x1, .string x2, .int .i64 x3, .slice a n k, .int .i64 x5, .int .i64 x6, .string x7, .int .i64 x8, .int .i64 x9], .int .i64 i] w fun r w' => r = .returned (.agg #[.int .i64 x0, .bool x1, .string keyX, .string (caV x1 x2 x7), .int .i64 x8, .int .i64 (caE x3 x9 i)]) ∧ Below w.heap.size w w' := by
  by_cases h3 : x3 = 3
  · have h3' : (x3 != 3) = false := by simpa using h3
    have HE : Hid (caE x3 x9 i = x9) := if_pos h3
    clear h3
    cases x1
    · go_enter Try.func50, Try.ntmps50
      go_wp2
      exact bodyPost_ret (v := .agg #[.int .i64 x0, .bool false, .string keyX, .string x7, .int .i64 x8, .int .i64 x9]) (by simp [results, Try.results50, go_sem, keyX]) rfl ⟨by rw [HE.out]; rfl, (by repeat (first | refine Below.setCell ?_ (by (try simp) <;> omega) _ | refine Below.alloc ?_ (by (try simp) <;> omega) _ | refine Below.drew ?_ | assumption | exact Below.refl _ _ | refine Below.trans ?_ (Below.mono (by assumption) (by (try simp) <;> omega))))⟩
    · go_enter Try.func50, Try.ntmps50
      go_wp2
      exact bodyPost_ret (v := .agg #[.int .i64 x0, .bool true, .string keyX, .string x2, .int .i64 x8, .int .i64 x9]) (by simp [results, Try.results50, go_sem, keyX]) rfl ⟨by rw [HE.out]; rfl, (by repeat (first | refine Below.setCell ?_ (by (try simp) <;> omega) _ | refine Below.alloc ?_ (by (try simp) <;> omega) _ | refine Below.drew ?_ | assumption | exact Below.refl _ _ | refine Below.trans ?_ (Below.mono (by assumption) (by (try simp) <;> omega))))⟩
  · have h3' : (x3 != 3) = true := by simpa using h3
    have HE : Hid (caE x3 x9 i = 999000 + i) := if_neg h3
    clear h3
    cases x1
    · go_enter Try.func50, Try.ntmps50
      go_wp2
      exact bodyPost_ret (v := .agg #[.int .i64 x0, .bool false, .string keyX, .string x7, .int .i64 x8, .int .i64 (999000 + i)]) (by simp [results, Try.results50, go_sem, keyX]) rfl ⟨by rw [HE.out]; rfl, (by repeat (first | refine Below.setCell ?_ (by (try simp) <;> omega) _ | refine Below.alloc ?_ (by (try simp) <;> omega) _ | refine Below.drew ?_ | assumption | exact Below.refl _ _ | refine Below.trans ?_ (Below.mono (by assumption) (by (try simp) <;> omega))))⟩
    · go_enter Try.func50, Try.ntmps50
      go_wp2
      exact bodyPost_ret (v := .agg #[.int .i64 x0, .bool true, .string keyX, .string x2, .int .i64 x8, .int .i64 (999000 + i)]) (by simp [results, Try.results50, go_sem, keyX]) rfl ⟨by rw [HE.out]; rfl, (by repeat (first | refine Below.setCell ?_ (by (try simp) <;> omega) _ | refine Below.alloc ?_ (by (try simp) <;> omega) _ | refine Below.drew ?_ | assumption | exact Below.refl _ _ | refine Below.trans ?_ (Below.mono (by assumption) (by (try simp) <;> omega))))⟩

set_option maxRecDepth 100000 in
set_option maxHeartbeats 1000000 in
theorem cloneCall_n (y0 : Int) (y1 : Bool) (y2 y3 : ByteArray) (y4 y5 : Int) (w : World) (h2 : y2.size ≤ 281474976710656) (h3 : y3.size ≤ 281474976710656) :
    Calls Try.prog 49 #[.agg #[.int .i64 y0, .bool y1, .string y2, .string y3, .int .i64 y4, .int .i64 y5]] w fun r w' => r = .returned (.agg #[.int .i64 y0, .bool y1, .string y2, .string y3, .int .i64 y4, .int .i64 y5]) ∧ Below w.heap.size w w' := by
  have H2 : Hid (y2.size ≤ 281474976710656 ∧ y3.size ≤ 281474976710656) := ⟨h2, h3⟩
  clear h2 h3
  obtain ⟨w0, hw0⟩ : ∃ x, x = (w.alloc (.cells #[.int .i64 y0, .bool y1, .string y2, .string y3, .int .i64 y4, .int .i64 y5] 88)).alloc (.cells #[.int .i64 0, .bool false, .string ⟨#[]⟩, .string ⟨#[]⟩, .int .i64 0, .int .i64 0] 88) := ⟨_, rfl⟩
  have HB0 : Hid (Bx w0 w.heap.size [.int .i64 y0, .bool y1, .string y2, .string y3, .int .i64 y4, .int .i64 y5] ∧ Bx w0 (w.heap.size + 1) [.int .i64 0, .bool false, .string ⟨#[]⟩, .string ⟨#[]⟩, .int .i64 0, .int .i64 0] ∧ Below w.heap.size w w0) := hw0 ▸ ⟨(Bx.new w [_, _, _, _, _, _] _).alloc _, Bx.newAt (by simp), ((Below.refl _ _).alloc (Nat.le_refl _) _).alloc (by simp) _⟩
  go_enter Try.func49, Try.ntmps49
  go_wp2_with fail
  rw [← hw0]
  clear hw0
  refine (clone_any _ _ H2.out.1).mono ?_
  rintro r w1 ⟨rfl, hb⟩
  have HB1 : Hid (Bx w1 w.heap.size [.int .i64 y0, .bool y1, .string y2, .string y3, .int .i64 y4, .int .i64 y5] ∧ Bx w1 (w.heap.size + 1) [.int .i64 0, .bool false, .string ⟨#[]⟩, .string ⟨#[]⟩, .int .i64 0, .int .i64 0] ∧ Below w.heap.size w w1) := ⟨HB0.out.1.next hb, HB0.out.2.1.next hb, below_next HB0.out.2.2 hb⟩
  clear hb HB0
  have d0 := (HB1.out.1).cell 0 rfl; have d1 := (HB1.out.1).cell 1 rfl; have d2 := (HB1.out.1).cell 2 rfl; have d3 := (HB1.out.1).cell 3 rfl; have d4 := (HB1.out.1).cell 4 rfl; have d5 := (HB1.out.1).cell 5 rfl; have dz := (HB1.out.1).2
  have g2 := HB1.out.1.frz 2 (by simp)
  go_wp2_with fail
  clear d0 d1 d2 d3 d4 d5 dz g2
  obtain ⟨w2, hw2⟩ : ∃ x, x = w1.setCell ⟨w.heap.size, 2, none⟩ (.string y2) := ⟨_, rfl⟩
  have HB2 : Hid (Bx w2 w.heap.size [.int .i64 y0, .bool y1, .string y2, .string y3, .int .i64 y4, .int .i64 y5] ∧ Bx w2 (w.heap.size + 1) [.int .i64 0, .bool false, .string ⟨#[]⟩, .string ⟨#[]⟩, .int .i64 0, .int .i64 0] ∧ Below w.heap.size w w2) := hw2 ▸ ⟨HB1.out.1.set (k := 2) (by simp) (.string y2), HB1.out.2.1.other (by omega), HB1.out.2.2.setCell (p := ⟨w.heap.size, 2, none⟩) (Nat.le_refl _) _⟩
  rw [← hw2]
  clear hw2 HB1
  refine (clone_any _ _ H2.out.2).mono ?_
  rintro r w3 ⟨rfl, hb⟩
  have HB3 : Hid (Bx w3 w.heap.size [.int .i64 y0, .bool y1, .string y2, .string y3, .int .i64 y4, .int .i64 y5] ∧ Bx w3 (w.heap.size + 1) [.int .i64 0, .bool false, .string ⟨#[]⟩, .string ⟨#[]⟩, .int .i64 0, .int .i64 0] ∧ Below w.heap.size w w3) := ⟨HB2.out.1.next hb, HB2.out.2.1.next hb, below_next HB2.out.2.2 hb⟩
  clear hb HB2
  have d0 := (HB3.out.1).cell 0 rfl; have d1 := (HB3.out.1).cell 1 rfl; have d2 := (HB3.out.1).cell 2 rfl; have d3 := (HB3.out.1).cell 3 rfl; have d4 := (HB3.out.1).cell 4 rfl; have d5 := (HB3.out.1).cell 5 rfl; have dz := (HB3.out.1).2
  have e0 := (HB3.out.2.1).cell 0 rfl; have e1 := (HB3.out.2.1).cell 1 rfl; have e2 := (HB3.out.2.1).cell 2 rfl; have e3 := (HB3.out.2.1).cell 3 rfl; have e4 := (HB3.out.2.1).cell 4 rfl; have e5 := (HB3.out.2.1).cell 5 rfl; have ez := (HB3.out.2.1).2
  have g3 := HB3.out.1.frz 3 (by simp)
  have k0 := HB3.out.2.1.frz 0 (by simp)
  have k1 := HB3.out.2.1.frz 1 (by simp)
  have k2 := HB3.out.2.1.frz 2 (by simp)
  have k3 := HB3.out.2.1.frz 3 (by simp)
  have k4 := HB3.out.2.1.frz 4 (by simp)
  have k5 := HB3.out.2.1.frz 5 (by simp)
  go_wp2
  refine bodyPost_ret (v := .agg #[.int .i64 y0, .bool y1, .string y2, .string y3, .int .i64 y4, .int .i64 y5]) (by simp [results, Try.results49, go_sem, d0, d1, d2, d3, d4, d5, e0, e1, e2, e3, e4, e5]) rfl ⟨rfl, ?_⟩
  have hB := HB3.out.2.2
  exact ((((((hB.setCell (p := ⟨w.heap.size, 3, none⟩) (Nat.le_refl _) _).setCell (p := ⟨w.heap.size + 1, 0, none⟩) (by show _ ≤ w.heap.size + 1; omega) _).setCell (p := ⟨w.heap.size + 1, 1, none⟩) (by show _ ≤ w.heap.size + 1; omega) _).setCell (p := ⟨w.heap.size + 1, 2, none⟩) (by show _ ≤ w.heap.size + 1; omega) _).setCell (p := ⟨w.heap.size + 1, 3, none⟩) (by show _ ≤ w.heap.size + 1; omega) _).setCell (p := ⟨w.heap.size + 1, 4, none⟩) (by show _ ≤ w.heap.size + 1; omega) _).setCell (p := ⟨w.heap.size + 1, 5, none⟩) (by show _ ≤ w.heap.size + 1; omega) _
end Go.Proofs.Ytjebnhbadbhaaaa
