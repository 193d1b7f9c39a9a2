/- Leases: at most one believes, and it is who holds; the law's own has and sameInts. -/
import Derived.Test.YtidalpgkljafdaaDlW
namespace Go.Proofs.Ytidalpgkljafdaa
open Go.RowKit
set_option linter.unusedVariables false
set_option linter.unusedSimpArgs false

section
variable {sk nw : Int} {cl : List (Sh.T .int)} {ho un : Int} {kn : List (Sh.T .int)}
/-- Who believes holds (Gray and Cheriton). -/
theorem bel_holds (hg : goodL sk nw cl ho un kn) {k : Nat} (hk : k < cl.length) (hb : atI cl k + sk < atI kn k) : (k : Int) = ho ∧ nw < un := by
  obtain ⟨h1, h2, h3, h4⟩ := hg.2.2.2.2.2.2 k hk
  have h5 := nearB_iff.1 h1
  have e : (k : Int) = ho := by
    rcases Int.decEq (k : Int) ho with q | q
    · have := h4 q; omega
    · exact q
  exact ⟨e, by omega⟩
theorem blv_one (hg : goodL sk nw cl ho un kn) : ∀ {k : Nat}, k ≤ cl.length → (blv sk cl kn k).length ≤ 1 ∧ (¬ ho < (k : Int) → (blv sk cl kn k).length = 0)
  | 0, _ => ⟨by simp [blv], fun _ => rfl⟩
  | k + 1, h => by
    have ih := blv_one hg (k := k) (by omega)
    rw [blv, List.length_append]
    by_cases c : atI cl k + sk < atI kn k
    · have h1 := (bel_holds hg (show k < cl.length by omega) c).1
      have h0 := ih.2 (by omega)
      rw [if_pos c, h0]
      exact ⟨by simp, fun q => by omega⟩
    · rw [if_neg c]
      exact ⟨by have := ih.1; simpa using this, fun q => by have := ih.2 (by omega); simpa using this⟩
theorem blv_mem {i : Int} : ∀ {k : Nat}, i ∈ blv sk cl kn k ↔ ∃ j : Nat, j < k ∧ i = (j : Int) ∧ atI cl j + sk < atI kn j
  | 0 => by simp [blv]
  | k + 1 => by
    rw [blv, List.mem_append, blv_mem (k := k)]
    constructor
    · rintro (⟨j, h1, h2, h3⟩ | h)
      · exact ⟨j, by omega, h2, h3⟩
      · by_cases c : atI cl k + sk < atI kn k
        · rw [if_pos c, List.mem_singleton] at h; exact ⟨k, by omega, h, c⟩
        · rw [if_neg c] at h; cases h
    · rintro ⟨j, h1, h2, h3⟩
      by_cases e : j = k
      · subst e; right; rw [if_pos h3]; exact List.mem_singleton.2 h2
      · left; exact ⟨j, by omega, h2, h3⟩
end
/-- How many believe behind each step of a play: at most one. -/
theorem lp_ones {s : Sh.T shLeases} {l : List (Sh.T shLeaseStep)} (hg : goodX s) : ∀ {k : Nat}, k ≤ l.length → ∀ x ∈ (lpF s (l.take k)).2, x ≤ (1 : Int)
  | 0, _ => by rw [List.take_zero]; intro x hx; cases hx
  | k + 1, h => by
    have ih := lp_ones hg (k := k) (l := l) (by omega)
    have hgk := lp_good hg (k := k + 1) (l := l) h
    rw [lp_take h] at hgk ⊢
    intro x hx
    have hx : x ∈ (lpF s (l.take k)).2 ++ [blN ((leX (lpF s (l.take k)).1 l[k]).getD (lpF s (l.take k)).1)] := hx
    rcases List.mem_append.1 hx with q | q
    · exact ih x q
    · rw [List.mem_singleton.1 q]
      have h1 := (blv_one hgk (Nat.le_refl _)).1
      exact Int.ofNat_le.2 h1
theorem lpA_ones (m sk : Int) (l : List (Sh.T shLeaseStep)) : ∀ x ∈ (lpA m sk l).2, x ≤ (1 : Int) := by
  by_cases h : lpOk m sk l
  · rw [(lp_yes h).1]
    have := lp_ones (s := lp0 m sk) (l := l) (good_lp0 h.1) (Nat.le_refl l.length)
    rw [List.take_length] at this; exact this
  · rw [(lp_no h).1]; intro x hx; cases hx
theorem lpA_good {m sk : Int} {l : List (Sh.T shLeaseStep)} (h : tf (lpOk m sk l) = true) : goodX (lpA m sk l).1 := by
  have h := tf_iff.1 h
  rw [(lp_yes h).1]
  have h1 := lp_good (s := lp0 m sk) (l := l) (good_lp0 h.1) (Nat.le_refl l.length)
  rw [List.take_length] at h1; exact h1
theorem lpA_len (m sk : Int) (l : List (Sh.T shLeaseStep)) : (lpA m sk l).2.length ≤ 100 := by
  by_cases h : lpOk m sk l
  · rw [(lp_yes h).1]
    have h2 := lp_len (s := lp0 m sk) (l := l) (Nat.le_refl l.length)
    rw [List.take_length] at h2
    have := h.2; omega
  · rw [(lp_no h).1]; exact Nat.zero_le _
/-- No step turns time back. -/
theorem leS_now {sk nw : Int} {cl : List (Sh.T .int)} {ho un : Int} {kn : List (Sh.T .int)} {a b n : Int} {y : Sh.T shLeases} (h : leS sk nw cl ho un kn a b n = some y) : nw ≤ y.2.1 := by
  by_cases hg : goodL sk nw cl ho un kn
  case neg => rw [leS_no hg] at h; cases h
  rw [leS_yes hg] at h
  unfold leB at h
  split at h
  · by_cases c : (0 ≤ b ∧ b ≤ (cl.length : Int) - 1) ∧ (1 ≤ n ∧ n ≤ 1000000) ∧ (b = ho ∨ un ≤ nw)
    · rw [leGrant_yes c] at h; cases h; exact Int.le_refl _
    · rw [leGrant_no c] at h; cases h
  split at h
  · by_cases c : (0 ≤ b ∧ b ≤ (cl.length : Int) - 1) ∧ b = ho
    · rw [leTell_yes c] at h; cases h; exact Int.le_refl _
    · rw [leTell_no c] at h; cases h
  split at h
  · by_cases c : (1 ≤ n ∧ n ≤ 1000000 - nw) ∧ ∀ i, i < cl.length → nearB sk (nw + n) (atI cl i) = true
    · rw [leTime_yes c] at h; cases h; show nw ≤ nw + n; omega
    · rw [leTime_no c] at h; cases h
  split at h
  · by_cases c : (0 ≤ b ∧ b ≤ (cl.length : Int) - 1) ∧ (-1000 ≤ n ∧ n ≤ 1000000) ∧ nearB sk nw (atI cl b.toNat + n) = true
    · rw [leTick_yes c] at h; cases h; exact Int.le_refl _
    · rw [leTick_no c] at h; cases h
  · cases h

theorem parts_some {A : Option (Sh.T shLeases)} {SK NW : Int} {CL : List (Sh.T .int)} {HO UN : Int} {KN : List (Sh.T .int)} (h : partsL A SK NW CL HO UN KN true) : A = some (SK, NW, CL, HO, UN, KN, ()) := by
  obtain ⟨h1, h2, h3, h4, h5, h6, h7⟩ := h
  cases A with
  | none => cases h7
  | some y => rw [← h1, ← h2, ← h3, ← h4, ← h5, ← h6]; rfl

set_option maxHeartbeats 1000000 in
theorem sameInts_same (a a' : Option Addr) (n cap cap' : Nat) (X : Nat → Int) (w : World) (hn : n ≤ 1048576) (hs : Sl w a n 1 (intF X)) (hs' : Sl w a' n 1 (intF X)) :
    Calls Try.prog 13 #[.slice a n cap, .slice a' n cap'] w fun r w' => r = .returned (.bool true) ∧ Below w.heap.size w w' := by
  go_enter Try.func13, Try.ntmps13
  go_wp2
  go_loopw [13] (fun i wr => ∃ k : Nat, k ≤ n ∧ i = .int .i64 k ∧ Below w.heap.size w wr) (fun i _ => n - (intOf i).toNat)
  case atStart => exact ⟨0, Nat.zero_le _, rfl, Below.refl _ _⟩
  case round =>
    obtain ⟨k, hk, rfl, hBr⟩ := hrel
    by_cases hlt : k < n
    · rcases hs.below hBr (Nat.le_refl _) with h | ⟨b, off, rfl, hbs, hE⟩
      · omega
      rcases hs'.below hBr (Nat.le_refl _) with h | ⟨b', off', rfl, hbs', hE'⟩
      · omega
      have hc := int_cell hE hlt
      have hc' := int_cell hE' hlt
      have hlt' : (k : Int) < (n : Int) := by omega
      have HB : Hid (Below w.heap.size w wr) := hBr
      clear hs hs' hE hE' hBr
      go_upto_region 6 with fail
      go_quiet (fail)
      go_wp2
      go_roundw
      case rel => exact ⟨k + 1, by omega, by go_num, below_dN HB.out _⟩
      case measure => simp [intOf]; omega
    · have hkn : k = n := by omega
      subst hkn
      clear hs hs'
      go_wp2
      go_ret
      exact ⟨rfl, hBr⟩
theorem sameI (a a' : Option Addr) (cap cap' : Nat) (D : List (Sh.T .int)) (w : World) (hn : D.length ≤ 1048576) (h : Lies w (.list .int) [.slice a D.length cap] D) (h' : Lies w (.list .int) [.slice a' D.length cap'] D) :
    Calls Try.prog 13 #[.slice a D.length cap, .slice a' D.length cap'] w fun r w' => r = .returned (.bool true) ∧ Below w.heap.size w w' := sameInts_same a a' D.length cap cap' (atI D) w hn (lies_sl h) (lies_sl h')
/-- A list's number, as a walk reads it. -/
theorem lies_at {w : World} {a : Option Addr} {cap k : Nat} {l : List (Sh.T .int)} (h : Lies w (.list .int) [.slice a l.length cap] l) (hk : k < l.length) : ∃ g o, a = some ⟨g, o, none⟩ ∧ w.cell? ⟨g, o + k, none⟩ = some (.int .i64 (atI l k)) ∧ g < w.heap.size := by
  rcases lies_sl h with q | ⟨b, off, rfl, hbs, hE⟩
  · omega
  · exact ⟨b, off, rfl, int_cell hE hk, hbs⟩

set_option maxHeartbeats 1000000 in
theorem has_n (a : Option Addr) (cap : Nat) (l : List (Sh.T .int)) (x : Int) (w : World) (hn : l.length ≤ 1048576) (h : Lies w (.list .int) [.slice a l.length cap] l) :
    Calls Try.prog 20 #[.slice a l.length cap, .int .i64 x] w fun r w' => r = .returned (.bool (tf (x ∈ l))) ∧ Below w.heap.size w w' := by
  have HL := Hid.intro h
  clear h
  go_enter Try.func20, Try.ntmps20
  go_wp2
  go_loopw [9] (fun i wr => ∃ k : Nat, k ≤ l.length ∧ i = .int .i64 k ∧ (∀ j, j < k → atI l j ≠ x) ∧ wr = w) (fun i _ => l.length - (intOf i).toNat)
  case atStart => exact ⟨0, Nat.zero_le _, rfl, fun j hj => absurd hj (by omega), rfl⟩
  case round =>
    obtain ⟨k, hk, rfl, hall, hwr⟩ := hrel
    subst hwr
    have HA := Hid.intro hall
    clear hall
    by_cases hlt : k < l.length
    · have hlt' : (k : Int) < (l.length : Int) := by omega
      obtain ⟨g, o, rfl, c0, hg⟩ := lies_at HL.out hlt
      obtain ⟨y, hy⟩ : ∃ y, y = atI l k := ⟨_, rfl⟩
      have HY := Hid.intro hy
      rw [← hy] at c0
      clear hy
      by_cases e : y = x
      · have HT : Hid (tf (x ∈ l) = true) := Hid.intro (tf_yes (by rw [← e, HY.out, atI_lt hlt]; exact List.getElem_mem hlt))
        subst e
        go_wp2
        go_ret
        exact ⟨ret_bool HT.out.symm, Below.refl _ _⟩
      · have HNE := Hid.intro e
        go_wp2
        go_roundw
        case rel => exact ⟨k + 1, by omega, by go_num, fun j hj => by
          by_cases q : j = k
          · subst q; rw [← HY.out]; exact HNE.out
          · exact HA.out j (by omega), trivial⟩
        case measure => simp [intOf]; omega
    · have HT : Hid (tf (x ∈ l) = false) := Hid.intro (tf_no (fun q => by
        obtain ⟨j, hj, e⟩ := List.getElem_of_mem q
        exact HA.out j (by omega) (by rw [atI_lt hj]; exact e)))
      go_wp2
      go_ret
      exact ⟨ret_bool HT.out.symm, Below.refl _ _⟩
end Go.Proofs.Ytidalpgkljafdaa
