/- The contracts of isOp and of GoodOps. -/
import Derived.Test.YthbpjmnlgfahmaaOps
import Derived.Test.YthbpjmnlgfahmaaOpsG
import Derived.Test.YthbpjmnlgfahmaaOpB
import Derived.Test.YthbpjmnlgfahmaaKeyI
namespace Go.Proofs.Ythbpjmnlgfahmaa
open Go.RowKit
set_option linter.unusedVariables false

def opB (k t : Int) (s : ByteArray) : Bool := inR t 1 8 && (if k = 1 ∨ k = 2 then keyOk s else k == 3 && s.toList.isEmpty)
theorem empty_size (s : ByteArray) : s.toList.isEmpty = (s.size == 0) := by
  rw [ByteArray.toList_eq]
  cases h : s.data.toList with
  | nil => have : s.size = 0 := by have := congrArg List.length h; simpa using this
           simp [this]
  | cons a l => have : s.size = l.length + 1 := by have := congrArg List.length h; simpa using this
                simp [this]
theorem key_some {s : ByteArray} (h : keyOk s = true) : s.toList.isEmpty = false := by
  rw [empty_size]
  simp only [keyOk, Bool.and_eq_true] at h
  have := (inR_iff.1 h.1).1
  exact beq_eq_false_iff_ne.2 (by omega)
theorem op_t {k t : Int} {s : ByteArray} (h : opB k t s = true) : ∃ q : Nat, t = (q : Int) ∧ 1 ≤ q ∧ q < 9 := by
  simp only [opB, Bool.and_eq_true] at h
  have := inR_iff.1 h.1
  exact ⟨t.toNat, by omega, by omega, by omega⟩
theorem op_kind {k t : Int} {s : ByteArray} (h : opB k t s = true) : (k = 1 ∨ k = 2) ∧ keyOk s = true ∨ k = 3 ∧ s.toList.isEmpty = true := by
  simp only [opB, Bool.and_eq_true] at h
  by_cases h1 : k = 1 ∨ k = 2
  · exact Or.inl ⟨h1, by simpa [h1] using h.2⟩
  · right; have := h.2; rw [if_neg h1] at this; simpa using this
def okO (K T : Nat → Int) (S : Nat → ByteArray) (i : Nat) : Bool := opB (K i) (T i) (S i)
/-- The array of who began, of who has committed. -/
def begA (T : Nat → Int) (k q : Nat) : Bool := begN T k (q : Int)
def comA (K T : Nat → Int) (k q : Nat) : Bool := comN K T k (q : Int)
theorem begA_step {T : Nat → Int} {k q : Nat} (h : T k = (q : Int)) (i : Nat) : (if i = q then true else begA T k i) = begA T (k + 1) i := by
  by_cases e : i = q
  · subst e; simp [begA, begN, h]
  · have : ¬ T k = (i : Int) := by omega
    simp [begA, begN, e, this]
theorem comA_step {K T : Nat → Int} {k q : Nat} (h : T k = (q : Int)) (i : Nat) : (if i = q then K k == 3 else comA K T k i) = comA K T (k + 1) i := by
  by_cases e : i = q
  · subst e; simp [comA, comN, h]
  · have : ¬ T k = (i : Int) := by omega
    simp [comA, comN, e, this]
theorem goodO_no {ok : Nat → Bool} {K T : Nat → Int} {n : Nat} (h : ¬ goodP ok K T n) : goodO ok K T n = false := by simp [goodO, h]
theorem goodO_yes {ok : Nat → Bool} {K T : Nat → Int} {n : Nat} (h : goodP ok K T n) : goodO ok K T n = true := by simp [goodO, h]
theorem goodO_eq {K T : Nat → Int} {S : Nat → ByteArray} {n : Nat} (h60 : n ≤ 60) (h : ∀ i, i < n → okO K T S i = true ∧ comN K T i (T i) = false) : eqB (begA T n) (comA K T n) 9 = goodO (okO K T S) K T n := by
  rw [Bool.eq_iff_iff, eqB_iff]
  constructor
  · intro he
    refine goodO_yes (good_of h60 h (fun t ht => ?_))
    obtain ⟨i, hi, rfl⟩ := begN_some ht
    obtain ⟨q, hq, _, h9⟩ := op_t (h i hi).1
    have := he q h9
    simp only [begA, comA, ← hq] at this
    rw [← this]; exact ht
  · intro hg q hq
    exact good_end (of_decide_eq_true hg) (q : Int)

set_option maxHeartbeats 1000000 in
theorem isOp_any (k t : Int) (s : ByteArray) (w : World) (hs : s.size ≤ maxLen) :
    Calls Try.prog 90 #[.agg #[.int .i64 k, .int .i64 t, .string s]] w fun r w' => r = .returned (.bool (opB k t s)) ∧ Below w.heap.size w w' := by
  cases ht : inR t 1 8
  · go_enter Try.func90, Try.ntmps90
    go_wp2_with (go_at_call 60; refine (inRange_any _ _ _ _).mono ?_; rintro e w' ⟨rfl, rfl⟩)
    go_ret
    exact ⟨ret_bool (by simp [opB, ht]), (by repeat (first | refine Below.setCell ?_ (by (try simp) <;> omega) _ | refine Below.alloc ?_ (by (try simp) <;> omega) _ | refine Below.drew ?_ | assumption | exact Below.refl _ _ | refine Below.trans ?_ (Below.mono (by assumption) (by (try simp) <;> omega))))⟩
  by_cases h1 : k = 1
  · subst h1
    go_enter Try.func90, Try.ntmps90
    go_wp2_with (first
      | (go_at_call 60; refine (inRange_any _ _ _ _).mono ?_; rintro e w' ⟨rfl, rfl⟩)
      | (go_at_call 106; refine (isKey_any _ _ hs).mono ?_; rintro e w' ⟨rfl, rfl⟩))
    go_ret
    exact ⟨ret_bool (by simp [opB, ht]), (by repeat (first | refine Below.setCell ?_ (by (try simp) <;> omega) _ | refine Below.alloc ?_ (by (try simp) <;> omega) _ | refine Below.drew ?_ | assumption | exact Below.refl _ _ | refine Below.trans ?_ (Below.mono (by assumption) (by (try simp) <;> omega))))⟩
  by_cases h2 : k = 2
  · subst h2
    go_enter Try.func90, Try.ntmps90
    go_wp2_with (first
      | (go_at_call 60; refine (inRange_any _ _ _ _).mono ?_; rintro e w' ⟨rfl, rfl⟩)
      | (go_at_call 106; refine (isKey_any _ _ hs).mono ?_; rintro e w' ⟨rfl, rfl⟩))
    go_ret
    exact ⟨ret_bool (by simp [opB, ht]), (by repeat (first | refine Below.setCell ?_ (by (try simp) <;> omega) _ | refine Below.alloc ?_ (by (try simp) <;> omega) _ | refine Below.drew ?_ | assumption | exact Below.refl _ _ | refine Below.trans ?_ (Below.mono (by assumption) (by (try simp) <;> omega))))⟩
  by_cases h3 : k = 3
  · subst h3
    go_enter Try.func90, Try.ntmps90
    go_wp2_with (first
      | (go_at_call 60; refine (inRange_any _ _ _ _).mono ?_; rintro e w' ⟨rfl, rfl⟩)
      | (go_at_call 106; refine (isKey_any _ _ hs).mono ?_; rintro e w' ⟨rfl, rfl⟩))
    go_ret
    exact ⟨ret_bool (by simp [opB, ht]), (by repeat (first | refine Below.setCell ?_ (by (try simp) <;> omega) _ | refine Below.alloc ?_ (by (try simp) <;> omega) _ | refine Below.drew ?_ | assumption | exact Below.refl _ _ | refine Below.trans ?_ (Below.mono (by assumption) (by (try simp) <;> omega))))⟩
  · have e1 : (k == 1) = false := by simpa using h1
    have e2 : (k == 2) = false := by simpa using h2
    have e3 : (k == 3) = false := by simpa using h3
    have HN : Hid (opB k t s = false) := by show opB k t s = false; simp [opB, h1, h2, h3]
    go_enter Try.func90, Try.ntmps90
    go_wp2_with (first
      | (go_at_call 60; refine (inRange_any _ _ _ _).mono ?_; rintro e w' ⟨rfl, rfl⟩)
      | (go_at_call 106; refine (isKey_any _ _ hs).mono ?_; rintro e w' ⟨rfl, rfl⟩))
    go_ret
    exact ⟨ret_bool HN.out.symm, (by repeat (first | refine Below.setCell ?_ (by (try simp) <;> omega) _ | refine Below.alloc ?_ (by (try simp) <;> omega) _ | refine Below.drew ?_ | assumption | exact Below.refl _ _ | refine Below.trans ?_ (Below.mono (by assumption) (by (try simp) <;> omega))))⟩

theorem ba_start (w : World) : BArr ((w.alloc (.cells #[.bool false, .bool false, .bool false, .bool false, .bool false, .bool false, .bool false, .bool false, .bool false] 96)).alloc (.cells #[.bool false, .bool false, .bool false, .bool false, .bool false, .bool false, .bool false, .bool false, .bool false] 96)) w.heap.size (fun _ => false) ∧
    BArr ((w.alloc (.cells #[.bool false, .bool false, .bool false, .bool false, .bool false, .bool false, .bool false, .bool false, .bool false] 96)).alloc (.cells #[.bool false, .bool false, .bool false, .bool false, .bool false, .bool false, .bool false, .bool false, .bool false] 96)) (w.heap.size + 1) (fun _ => false) :=
  ⟨(BArr.new w (fun _ => false) 96).below (Go.Joins.below_alloc1 _ _) (by simp), by
    have := BArr.new (w.alloc (.cells #[.bool false, .bool false, .bool false, .bool false, .bool false, .bool false, .bool false, .bool false, .bool false] 96)) (fun _ => false) 96
    simpa using this⟩

set_option maxHeartbeats 2000000 in
theorem goodOps_any (a : Option Addr) (n cap : Nat) (K T : Nat → Int) (S : Nat → ByteArray) (w : World) (hn : n ≤ 1048576) (hS : ∀ i, i < n → (S i).size ≤ maxLen) (hs : Sl w a n 3 (opF K T S)) :
    Calls Try.prog 47 #[.slice a n cap] w fun r w' => r = .returned (.bool (goodO (okO K T S) K T n)) ∧ Below w.heap.size w w' := by
  by_cases h60 : n ≤ 60
  case neg =>
    have h60' : (60 : Int) < (n : Int) := by omega
    have HN : Hid (goodO (okO K T S) K T n = false) := goodO_no (fun h => h60 h.1)
    clear hs h60 hS
    go_enter Try.func47, Try.ntmps47
    go_wp2
    go_ret
    exact ⟨ret_bool HN.out.symm, Below.refl _ _⟩
  case pos =>
  have h60' : ¬ (60 : Int) < (n : Int) := by omega
  have HS : Hid (Sl w a n 3 (opF K T S) ∧ ∀ i, i < n → (S i).size ≤ maxLen) := ⟨hs, hS⟩
  clear hs hS
  go_enter Try.func47, Try.ntmps47
  go_wp2
  go_loopw [12] (fun i wr => ∃ k : Nat, k ≤ n ∧ i = .int .i64 k ∧ BArr wr w.heap.size (begA T k) ∧ BArr wr (w.heap.size + 1) (comA K T k) ∧ (∀ i, i < k → okO K T S i = true ∧ comN K T i (T i) = false) ∧ Below w.heap.size w wr) (fun i _ => n - (intOf i).toNat)
  case atStart => exact ⟨0, Nat.zero_le _, rfl, (ba_start w).1, (ba_start w).2, fun i hi => absurd hi (by omega), (by repeat (first | refine Below.setCell ?_ (by (try simp) <;> omega) _ | refine Below.alloc ?_ (by (try simp) <;> omega) _ | refine Below.drew ?_ | assumption | exact Below.refl _ _ | refine Below.trans ?_ (Below.mono (by assumption) (by (try simp) <;> omega))))⟩
  case round =>
    obtain ⟨k, hk, rfl, hA, hC, hall, hBr⟩ := hrel
    by_cases hlt : k < n
    · rcases HS.out.1.below hBr (Nat.le_refl _) with h | ⟨b, off, rfl, hbs, hE⟩
      · omega
      have hlt' : (k : Int) < (n : Int) := by omega
      obtain ⟨c0, c1, c2⟩ := op_cells hE hlt
      have hz : w.heap.size ≤ wr.heap.size := hBr.size
      have hz1 : w.heap.size + 1 < wr.heap.size := hC.2
      have HH : Hid (BArr wr w.heap.size (begA T k) ∧ BArr wr (w.heap.size + 1) (comA K T k) ∧ (∀ i, i < k → okO K T S i = true ∧ comN K T i (T i) = false) ∧ Below w.heap.size w wr) := ⟨hA, hC, hall, hBr⟩
      clear hA hC hall hBr hE
      go_wp2_with fail
      refine (isOp_any _ _ _ _ (HS.out.2 k hlt)).mono ?_
      rintro r w2 ⟨rfl, hb2⟩
      obtain ⟨hA, hC, hall, hBr⟩ := HH.out
      have hal : Below wr.heap.size wr w2 := (Go.Joins.below_alloc1 _ _).trans (hb2.mono (by simp))
      have hA2 := hA.below hal hA.2
      have hC2 := hC.below hal hC.2
      have hB2 : Below w.heap.size w w2 := hBr.trans (hal.mono hz)
      have d0 : w2.cell? ⟨wr.heap.size, 0, none⟩ = some (.int .i64 (K k)) := (hb2.cell (p := ⟨wr.heap.size, 0, none⟩) (by simp)).trans (by simp)
      have d1 : w2.cell? ⟨wr.heap.size, 1, none⟩ = some (.int .i64 (T k)) := (hb2.cell (p := ⟨wr.heap.size, 1, none⟩) (by simp)).trans (by simp)
      have dz : wr.heap.size < w2.heap.size := by have := hb2.size; simp at this; omega
      have HB2 : Hid (Below w.heap.size w w2) := hB2
      have HA2 : Hid (BArr w2 w.heap.size (begA T k) ∧ BArr w2 (w.heap.size + 1) (comA K T k) ∧ (∀ i, i < k → okO K T S i = true ∧ comN K T i (T i) = false)) := ⟨hA2, hC2, hall⟩
      have HO : Hid (okO K T S k = opB (K k) (T k) (S k)) := rfl
      clear hA hC hall hBr hal hA2 hC2 hB2 hb2 HH c0 c1 c2
      cases ho : opB (K k) (T k) (S k)
      · have HN : Hid (goodO (okO K T S) K T n = false) := goodO_no (fun h => by have := (h.2 k hlt).1; rw [HO.out, ho] at this; cases this)
        go_wp2
        go_ret
        exact ⟨ret_bool HN.out.symm, HB2.out⟩
      obtain ⟨q, hq, hq1, hq9⟩ := op_t ho
      have HQ : Hid (T k = (q : Int)) := hq
      rw [hq] at d1
      have hq9' : (q : Int) < 9 := by omega
      have e0 := (HA2.out.1.1 q hq9).1
      have f0 := (HA2.out.1.1 q hq9).2
      have e1 := (HA2.out.2.1.1 q hq9).1
      have f1 := (HA2.out.2.1.1 q hq9).2
      have zz0 := HA2.out.1.2
      have zz1 := HA2.out.2.1.2
      have HC : Hid (comN K T k (T k) = comA K T k q) := by show _ = _; rw [hq]; rfl
      clear hq
      cases hc : comA K T k q
      · rw [hc] at e1
        have g0 : (w2.setCell ⟨w.heap.size, q, none⟩ (.bool true)).cell? ⟨wr.heap.size, 0, none⟩ = some (.int .i64 (K k)) := by rw [World.cell?_setCell_other _ _ _ _ (addr_ne' (by omega))]; exact d0
        have g1 : (w2.setCell ⟨w.heap.size, q, none⟩ (.bool true)).cell? ⟨wr.heap.size, 1, none⟩ = some (.int .i64 (q : Int)) := by rw [World.cell?_setCell_other _ _ _ _ (addr_ne' (by omega))]; exact d1
        have g2 : (w2.setCell ⟨w.heap.size, q, none⟩ (.bool true)).cell? ⟨w.heap.size + 1, q, none⟩ = some (.bool false) := by rw [World.cell?_setCell_other _ _ _ _ (addr_ne' (by omega))]; exact e1
        go_wp2
        go_roundw
        case rel =>
          refine ⟨k + 1, by omega, by go_num, ?_, ?_, upto_succ HA2.out.2.2 ⟨by rw [HO.out]; exact ho, by rw [HC.out]; exact hc⟩, ?_⟩
          · exact ((HA2.out.1.set hq9 true).setOther (by omega)).congr (fun i _ => begA_step HQ.out i)
          · exact ((HA2.out.2.1.setOther (by omega)).set hq9 _).congr (fun i _ => comA_step HQ.out i)
          · exact (HB2.out.setCell (p := ⟨w.heap.size, q, none⟩) (by simp) _).setCell (p := ⟨w.heap.size + 1, q, none⟩) (by simp) _
        case measure => simp [intOf]; omega
      · have HN : Hid (goodO (okO K T S) K T n = false) := goodO_no (fun h => by have := good_com h hlt; rw [HC.out, hc] at this; cases this)
        rw [hc] at e1
        go_wp2
        go_ret
        exact ⟨ret_bool HN.out.symm, HB2.out⟩
    · have hkn : k = n := by omega
      subst hkn
      have HN : Hid (eqB (begA T k) (comA K T k) 9 = goodO (okO K T S) K T k) := goodO_eq h60 hall
      have HB : Hid (Below w.heap.size w wr) := hBr
      obtain ⟨a0, a1, a2, a3, a4, a5, a6, a7, a8⟩ := hA.nine
      obtain ⟨b0, b1, b2, b3, b4, b5, b6, b7, b8⟩ := hC.nine
      have r0 := run_eq9 (begA T k) (comA K T k)
      have z0 := hA.2
      have z1 := hC.2
      clear hA hC hall hBr
      go_wp2
      go_ret
      exact ⟨ret_bool HN.out, HB.out⟩
end Go.Proofs.Ythbpjmnlgfahmaa
