/- The contract of the specification's GoodOps. -/
import Derived.Test.YthbpjmnlgfahmaaOpI
namespace Go.Proofs.Ythbpjmnlgfahmaa
open Go.RowKit
set_option linter.unusedVariables false

theorem opB_k {k t : Int} {s : ByteArray} (h : inR k 1 3 = false) : opB k t s = false := by
  have h1 : k ≠ 1 := by rintro rfl; simp [inR] at h
  have h2 : k ≠ 2 := by rintro rfl; simp [inR] at h
  have h3 : k ≠ 3 := by rintro rfl; simp [inR] at h
  have e3 : (k == 3) = false := by simpa using h3
  simp [opB, h1, h2, e3]
theorem opB_t {k t : Int} {s : ByteArray} (h : inR t 1 8 = false) : opB k t s = false := by simp [opB, h]
theorem opB_3 {k t : Int} {s : ByteArray} (h3 : (k == 3) = true) (ht : inR t 1 8 = true) : opB k t s = s.toList.isEmpty := by
  have : k = 3 := by simpa using h3
  subst this; simp [opB, ht]
theorem opB_12 {k t : Int} {s : ByteArray} (hk : inR k 1 3 = true) (h3 : (k == 3) = false) (ht : inR t 1 8 = true) : opB k t s = keyOk s := by
  have := inR_iff.1 hk
  have : k ≠ 3 := by simpa using h3
  have : k = 1 ∨ k = 2 := by omega
  simp [opB, ht, this]
theorem key_none {s : ByteArray} (h : s.toList.isEmpty = true) : keyOk s = false := by
  cases hk : keyOk s
  · rfl
  · rw [key_some hk] at h; cases h
theorem badO {K T : Nat → Int} {S : Nat → ByteArray} {n k : Nat} (hk : k < n) (h : okO K T S k = false) : goodO (okO K T S) K T n = false := goodO_no (fun g => by rw [(g.2 k hk).1] at h; cases h)
theorem badE {K T : Nat → Int} {S : Nat → ByteArray} {n k : Nat} (hk : k < n) (h : endOk K T n k = false) : goodO (okO K T S) K T n = false := goodO_no (fun g => by rw [(g.2 k hk).2] at h; cases h)

theorem off_at (off k i : Nat) : off + (k + 1 + i) * 3 = off + (k + 1) * 3 + i * 3 := by omega
/-- Block g is one op. -/
def Op1 (w : World) (g : Nat) (k t : Int) (s : ByteArray) : Prop := w.cell? ⟨g, 0, none⟩ = some (.int .i64 k) ∧ w.cell? ⟨g, 1, none⟩ = some (.int .i64 t) ∧ w.cell? ⟨g, 2, none⟩ = some (.string s) ∧ g < w.heap.size
theorem Op1.next {w w' : World} {g : Nat} {k t : Int} {s : ByteArray} (h : Op1 w g k t s) (hb : Below w.heap.size w w') : Op1 w' g k t s :=
  ⟨(hb.cell (p := ⟨g, 0, none⟩) h.2.2.2).trans h.1, (hb.cell (p := ⟨g, 1, none⟩) h.2.2.2).trans h.2.1, (hb.cell (p := ⟨g, 2, none⟩) h.2.2.2).trans h.2.2.1, Nat.lt_of_lt_of_le h.2.2.2 hb.size⟩
theorem Op1.new (w : World) (k t : Int) (s : ByteArray) (y : TypeId) : Op1 (w.alloc (.cells #[.int .i64 k, .int .i64 t, .string s] y)) w.heap.size k t s := ⟨by simp, by simp, by simp, by simp⟩

set_option maxRecDepth 100000 in
set_option maxHeartbeats 4000000 in
theorem specGoodOps_any (a : Option Addr) (n cap : Nat) (K T : Nat → Int) (S : Nat → ByteArray) (w : World) (hn : n ≤ 1048576) (hcap : n ≤ cap) (hS : ∀ i, i < n → (S i).size ≤ maxLen) (hs : Sl w a n 3 (opF K T S)) :
    Calls Try.prog 45 #[.slice a n cap] w fun r w' => r = .returned (.bool (goodO (okO K T S) K T n)) ∧ Below w.heap.size w w' := by
  by_cases h60 : n ≤ 60
  case neg =>
    have h60' : (60 : Int) < (n : Int) := by omega
    have HN : Hid (goodO (okO K T S) K T n = false) := goodO_no (fun h => h60 h.1)
    clear hs h60 hS
    go_enter Try.func45, Try.ntmps45
    go_wp2
    go_ret
    exact ⟨ret_bool HN.out.symm, Below.refl _ _⟩
  case pos =>
  have h60' : ¬ (60 : Int) < (n : Int) := by omega
  have HS : Hid (Sl w a n 3 (opF K T S)) := hs
  have HZ : Hid (∀ i, i < n → (S i).size ≤ maxLen) := hS
  clear hs hS
  go_enter Try.func45, Try.ntmps45
  go_wp2
  go_loopw [14] (fun i wr => ∃ k : Nat, k ≤ n ∧ i = .int .i64 k ∧ (∀ i, i < k → okO K T S i = true ∧ endOk K T n i = true) ∧ Below w.heap.size w wr) (fun i _ => n - (intOf i).toNat)
  case atStart => exact ⟨0, Nat.zero_le _, rfl, fun i hi => absurd hi (by omega), Below.refl _ _⟩
  case round =>
    obtain ⟨k, hk, rfl, hall, hBr⟩ := hrel
    obtain ⟨wo, hwo⟩ : ∃ x, x = wr := ⟨wr, rfl⟩
    subst hwo
    by_cases hlt : k < n
    · rcases HS.out.below hBr (Nat.le_refl _) with h | ⟨b, off, rfl, hbs, hE⟩
      · omega
      have hlt' : (k : Int) < (n : Int) := by omega
      obtain ⟨c0, c1, c2⟩ := op_cells hE hlt
      have hz : w.heap.size ≤ wo.heap.size := hBr.size
      have HH : Hid ((∀ i, i < k → okO K T S i = true ∧ endOk K T n i = true) ∧ Below w.heap.size w wo ∧ Elems wo b off n 3 (opF K T S)) := ⟨hall, hBr, hE⟩
      clear hall hBr hE
      have hsz := HZ.out k hlt
      have HO : Hid (okO K T S k = opB (K k) (T k) (S k)) := rfl
      cases hkd : inR (K k) 1 3
      · have HN : Hid (goodO (okO K T S) K T n = false) := badO hlt (by rw [HO.out]; exact opB_k hkd)
        go_wp2_with (first
          | (go_at_call 63; refine (l1In_any _ _ _ _).mono ?_; rintro e w' ⟨rfl, rfl⟩)
          | (go_at_call 88; refine (l1Key_any _ _ hsz).mono ?_; rintro e w' ⟨rfl, rfl⟩))
        have hb := HH.out.2.1
        go_ret
        exact ⟨ret_bool HN.out.symm, (by repeat (first | refine Below.setCell ?_ (by (try simp) <;> omega) _ | refine Below.alloc ?_ (by (try simp) <;> omega) _ | refine Below.drew ?_ | assumption | exact Below.refl _ _ | refine Below.trans ?_ (Below.mono (by assumption) (by (try simp) <;> omega))))⟩
      cases hp : inR (T k) 1 8
      · have HN : Hid (goodO (okO K T S) K T n = false) := badO hlt (by rw [HO.out]; exact opB_t hp)
        go_wp2_with (first
          | (go_at_call 63; refine (l1In_any _ _ _ _).mono ?_; rintro e w' ⟨rfl, rfl⟩)
          | (go_at_call 88; refine (l1Key_any _ _ hsz).mono ?_; rintro e w' ⟨rfl, rfl⟩))
        have hb := HH.out.2.1
        go_ret
        exact ⟨ret_bool HN.out.symm, (by repeat (first | refine Below.setCell ?_ (by (try simp) <;> omega) _ | refine Below.alloc ?_ (by (try simp) <;> omega) _ | refine Below.drew ?_ | assumption | exact Below.refl _ _ | refine Below.trans ?_ (Below.mono (by assumption) (by (try simp) <;> omega))))⟩
      have hkc : (k : Int) + 1 ≤ (cap : Int) := by omega
      cases h3 : (K k == 3)
      · cases hy : (S k).toList.isEmpty
        · cases hq : keyOk (S k)
          · have HN : Hid (goodO (okO K T S) K T n = false) := badO hlt (by rw [HO.out, opB_12 hkd h3 hp]; exact hq)
            go_wp2_with (first
              | (go_at_call 63; refine (l1In_any _ _ _ _).mono ?_; rintro e w' ⟨rfl, rfl⟩)
              | (go_at_call 88; refine (l1Key_any _ _ hsz).mono ?_; rintro e w' ⟨rfl, rfl⟩))
            have hb := HH.out.2.1
            go_ret
            exact ⟨ret_bool HN.out.symm, (by repeat (first | refine Below.setCell ?_ (by (try simp) <;> omega) _ | refine Below.alloc ?_ (by (try simp) <;> omega) _ | refine Below.drew ?_ | assumption | exact Below.refl _ _ | refine Below.trans ?_ (Below.mono (by assumption) (by (try simp) <;> omega))))⟩
          · have HY : Hid (okO K T S k = true) := by show okO K T S k = true; rw [HO.out, opB_12 hkd h3 hp]; exact hq
            go_wp2_with (first
              | (go_at_call 63; refine (l1In_any _ _ _ _).mono ?_; rintro e w' ⟨rfl, rfl⟩)
              | (go_at_call 88; refine (l1Key_any _ _ hsz).mono ?_; rintro e w' ⟨rfl, rfl⟩))
            all_goals
              try subst h
              go_loopw [54, 5, 6] (fun j lt dn wr => ∃ i : Nat, i ≤ n - (k + 1) ∧ j = .int .i64 i ∧ lt = .bool (laterN T k i) ∧ dn = .bool (doneN K T k i) ∧ Op1 wr wo.heap.size (K k) (T k) (S k) ∧ Below wo.heap.size wo wr) (fun j _ _ _ => n - (k + 1) - (intOf j).toNat)
              case atStart => exact ⟨0, Nat.zero_le _, rfl, rfl, rfl, Op1.new _ _ _ _ _, Go.Joins.below_alloc1 _ _⟩
              case round =>
                obtain ⟨i, hi, rfl, rfl, rfl, hev, hBi⟩ := hrel
                by_cases hik : i < n - (k + 1)
                · have hik' : (i : Int) < ((n - (k + 1) : Nat) : Int) := by omega
                  obtain ⟨d0, d1, d2⟩ := op_cells (HH.out.2.2.below hBi hbs) (show k + 1 + i < n by omega)
                  rw [off_at] at d0 d1 d2
                  obtain ⟨g0, g1, g2, hgl⟩ := hev
                  have HI : Hid (Below wo.heap.size wo wr) := hBi
                  have hzi : wo.heap.size ≤ wr.heap.size := hBi.size
                  have HE1 : Hid (Op1 wr wo.heap.size (K k) (T k) (S k)) := ⟨g0, g1, g2, hgl⟩
                  have HT : Hid (laterN T k (i + 1) = (laterN T k i || T (k + 1 + i) == T k) ∧ doneN K T k (i + 1) = (doneN K T k i || (T (k + 1 + i) == T k && K (k + 1 + i) == 3))) := ⟨rfl, rfl⟩
                  clear c0 c1 c2 hBi
                  generalize laterN T k i = lt at *
                  generalize doneN K T k i = dn at *
                  cases hA : (T (k + 1 + i) == T k) <;> cases hB : (K (k + 1 + i) == 3) <;> cases lt <;> cases dn
                  all_goals first
                    | (exfalso; omega)
                    | (go_wp2; go_roundw; (case rel => exact ⟨i + 1, by omega, by go_num, by rw [HT.out.1, hA]; rfl, by rw [HT.out.2, hA, hB]; rfl, HE1.out.next (Go.Joins.below_alloc1 _ _), HI.out.alloc hzi _⟩); (case measure => simp [intOf]; omega))
                · have hik2 : i = n - (k + 1) := by omega
                  subst hik2
                  clear hi hik
                  obtain ⟨g0, g1, g2, hgl⟩ := hev
                  have HB : Hid (Below w.heap.size w wr) := HH.out.2.1.trans (hBi.mono hz)
                  have HQ : Hid (endOk K T n k = doneN K T k (n - (k + 1))) := by show endOk K T n k = _; simp [endOk, show ¬ K k = 3 by simpa using h3]
                  have h3' : ¬ K k = 3 := by simpa using h3
                  clear c0 c1 c2 hBi h3 hkc
                  generalize laterN T k (n - (k + 1)) = lt at *
                  generalize doneN K T k (n - (k + 1)) = dn at *
                  cases dn
                  · cases lt
                    all_goals
                      have HN : Hid (goodO (okO K T S) K T n = false) := badE hlt HQ.out
                      go_wp2
                      go_ret
                      exact ⟨ret_bool HN.out.symm, HB.out⟩
                  · cases lt
                    all_goals
                      go_wp2
                      go_roundw
                      case rel => exact ⟨k + 1, by omega, by go_num, upto_succ HH.out.1 ⟨HY.out, HQ.out⟩, HB.out⟩
                      case measure => simp [intOf]; omega
        · have HN : Hid (goodO (okO K T S) K T n = false) := badO hlt (by rw [HO.out, opB_12 hkd h3 hp]; exact key_none hy)
          go_wp2_with (first
            | (go_at_call 63; refine (l1In_any _ _ _ _).mono ?_; rintro e w' ⟨rfl, rfl⟩)
            | (go_at_call 88; refine (l1Key_any _ _ hsz).mono ?_; rintro e w' ⟨rfl, rfl⟩))
          have hb := HH.out.2.1
          go_ret
          exact ⟨ret_bool HN.out.symm, (by repeat (first | refine Below.setCell ?_ (by (try simp) <;> omega) _ | refine Below.alloc ?_ (by (try simp) <;> omega) _ | refine Below.drew ?_ | assumption | exact Below.refl _ _ | refine Below.trans ?_ (Below.mono (by assumption) (by (try simp) <;> omega))))⟩
      · cases hy : (S k).toList.isEmpty
        · have HN : Hid (goodO (okO K T S) K T n = false) := badO hlt (by rw [HO.out, opB_3 h3 hp]; exact hy)
          go_wp2_with (first
            | (go_at_call 63; refine (l1In_any _ _ _ _).mono ?_; rintro e w' ⟨rfl, rfl⟩)
            | (go_at_call 88; refine (l1Key_any _ _ hsz).mono ?_; rintro e w' ⟨rfl, rfl⟩))
          have hb := HH.out.2.1
          go_ret
          exact ⟨ret_bool HN.out.symm, (by repeat (first | refine Below.setCell ?_ (by (try simp) <;> omega) _ | refine Below.alloc ?_ (by (try simp) <;> omega) _ | refine Below.drew ?_ | assumption | exact Below.refl _ _ | refine Below.trans ?_ (Below.mono (by assumption) (by (try simp) <;> omega))))⟩
        · have HY : Hid (okO K T S k = true) := by show okO K T S k = true; rw [HO.out, opB_3 h3 hp]; exact hy
          go_wp2_with (first
            | (go_at_call 63; refine (l1In_any _ _ _ _).mono ?_; rintro e w' ⟨rfl, rfl⟩)
            | (go_at_call 88; refine (l1Key_any _ _ hsz).mono ?_; rintro e w' ⟨rfl, rfl⟩))
          all_goals
            try subst h
            go_loopw [54, 5, 6] (fun j lt dn wr => ∃ i : Nat, i ≤ n - (k + 1) ∧ j = .int .i64 i ∧ lt = .bool (laterN T k i) ∧ dn = .bool (doneN K T k i) ∧ Op1 wr wo.heap.size (K k) (T k) (S k) ∧ Below wo.heap.size wo wr) (fun j _ _ _ => n - (k + 1) - (intOf j).toNat)
            case atStart => exact ⟨0, Nat.zero_le _, rfl, rfl, rfl, Op1.new _ _ _ _ _, Go.Joins.below_alloc1 _ _⟩
            case round =>
              obtain ⟨i, hi, rfl, rfl, rfl, hev, hBi⟩ := hrel
              by_cases hik : i < n - (k + 1)
              · have hik' : (i : Int) < ((n - (k + 1) : Nat) : Int) := by omega
                obtain ⟨d0, d1, d2⟩ := op_cells (HH.out.2.2.below hBi hbs) (show k + 1 + i < n by omega)
                rw [off_at] at d0 d1 d2
                obtain ⟨g0, g1, g2, hgl⟩ := hev
                have HI : Hid (Below wo.heap.size wo wr) := hBi
                have hzi : wo.heap.size ≤ wr.heap.size := hBi.size
                have HE1 : Hid (Op1 wr wo.heap.size (K k) (T k) (S k)) := ⟨g0, g1, g2, hgl⟩
                have HT : Hid (laterN T k (i + 1) = (laterN T k i || T (k + 1 + i) == T k) ∧ doneN K T k (i + 1) = (doneN K T k i || (T (k + 1 + i) == T k && K (k + 1 + i) == 3))) := ⟨rfl, rfl⟩
                clear c0 c1 c2 hBi
                generalize laterN T k i = lt at *
                generalize doneN K T k i = dn at *
                cases hA : (T (k + 1 + i) == T k) <;> cases hB : (K (k + 1 + i) == 3) <;> cases lt <;> cases dn
                all_goals first
                  | (exfalso; omega)
                  | (go_wp2; go_roundw; (case rel => exact ⟨i + 1, by omega, by go_num, by rw [HT.out.1, hA]; rfl, by rw [HT.out.2, hA, hB]; rfl, HE1.out.next (Go.Joins.below_alloc1 _ _), HI.out.alloc hzi _⟩); (case measure => simp [intOf]; omega))
              · have hik2 : i = n - (k + 1) := by omega
                subst hik2
                clear hi hik
                obtain ⟨g0, g1, g2, hgl⟩ := hev
                have HB : Hid (Below w.heap.size w wr) := HH.out.2.1.trans (hBi.mono hz)
                have HQ : Hid (endOk K T n k = !laterN T k (n - (k + 1))) := by show endOk K T n k = _; simp [endOk, show K k = 3 by simpa using h3]
                have h3' : K k = 3 := by simpa using h3
                rw [h3'] at g0
                clear c0 c1 c2 hBi h3 h3' hkc
                generalize laterN T k (n - (k + 1)) = lt at *
                generalize doneN K T k (n - (k + 1)) = dn at *
                cases lt
                · cases dn
                  all_goals
                    go_wp2
                    go_roundw
                    case rel => exact ⟨k + 1, by omega, by go_num, upto_succ HH.out.1 ⟨HY.out, HQ.out⟩, HB.out⟩
                    case measure => simp [intOf]; omega
                · cases dn
                  all_goals
                    have HN : Hid (goodO (okO K T S) K T n = false) := badE hlt HQ.out
                    go_wp2
                    go_ret
                    exact ⟨ret_bool HN.out.symm, HB.out⟩
    · have hkn : k = n := by omega
      subst hkn
      have HN : Hid (goodO (okO K T S) K T k = true) := goodO_yes ⟨h60, hall⟩
      have HB : Hid (Below w.heap.size w wo) := hBr
      clear hall hBr
      go_wp2
      go_ret
      exact ⟨ret_bool HN.out.symm, HB.out⟩
end Go.Proofs.Ythbpjmnlgfahmaa
