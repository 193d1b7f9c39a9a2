/- Leases: GoodLeases, on both sides. Written by tools/mkLe.py. -/
import Derived.Test.YtidalpgkljafdaaLeA
import Derived.Test.YtidalpgkljafdaaRg2
namespace Go.Proofs.Ytidalpgkljafdaa
open Go.RowKit
set_option linter.unusedVariables false
set_option linter.unusedSimpArgs false

theorem le_sizes {sk nw ho un : Int} {cl kn : List (Sh.T .int)} {N : Nat} (h : szD shLeases (sk, nw, cl, ho, un, kn, ()) ≤ N) : cl.length ≤ N ∧ kn.length ≤ N := by
  have h : 0 + (0 + ((cl.length + (cl.map (szD .int)).sum) + (0 + (0 + ((kn.length + (kn.map (szD .int)).sum) + 0))))) ≤ N := h
  omega
theorem or_upto {P : Nat → Prop} {k : Nat} (h1 : ∀ i, i < k → P i) (h2 : P k) : ∀ i, i < k + 1 → P i := by
  intro i hi
  by_cases e : i = k
  · rw [e]; exact h2
  · exact h1 i (by omega)
theorem l8Nodes_n (m : Int) (w : World) : Calls Try.prog 54 #[.int .i64 m] w fun r w' => r = .returned (.bool (inR m 1 12)) ∧ w' = w := by
  go_enter Try.func54, Try.ntmps54
  go_wp2_with (go_at_call 55; refine (l1In_any _ _ _ _).mono ?_; rintro e w' ⟨rfl, rfl⟩)
  go_ret
  exact ⟨rfl, rfl⟩
theorem field_clock (c sk x : Int) (W : World) : Sem.run Try.prog (Instr.field 80 (.agg #[.int .i64 c, .int .i64 sk, .int .i64 x]) 0) W = .ok (.agg #[.int .i64 c, .int .i64 sk]) W := by kernel_rfl
/-- Leases that came in, as the walks take them. -/
def LeL (w : World) (a1 : Option Addr) (n k1 : Nat) (a2 : Option Addr) (m k2 : Nat) (cl kn : List (Sh.T .int)) : Prop :=
  Lies w (.list .int) [.slice a1 cl.length k1] cl ∧ Lies w (.list .int) [.slice a2 kn.length k2] kn ∧ n = cl.length ∧ m = kn.length
theorem LeL.next {w w' : World} {a1 : Option Addr} {n k1 : Nat} {a2 : Option Addr} {m k2 : Nat} {cl kn : List (Sh.T .int)} (h : LeL w a1 n k1 a2 m k2 cl kn) (hb : Below w.heap.size w w') : LeL w' a1 n k1 a2 m k2 cl kn := ⟨h.1.next hb, h.2.1.next hb, h.2.2⟩
theorem LeL.clocks {w : World} {a1 : Option Addr} {n k1 : Nat} {a2 : Option Addr} {m k2 : Nat} {cl kn : List (Sh.T .int)} (h : LeL w a1 n k1 a2 m k2 cl kn) : Sl w a1 n 1 (intF (atI cl)) := by have := lies_sl h.1; rw [← h.2.2.1] at this; exact this
theorem LeL.known {w : World} {a1 : Option Addr} {n k1 : Nat} {a2 : Option Addr} {m k2 : Nat} {cl kn : List (Sh.T .int)} (h : LeL w a1 n k1 a2 m k2 cl kn) : Sl w a2 m 1 (intF (atI kn)) := by have := lies_sl h.2.1; rw [← h.2.2.2] at this; exact this


set_option maxRecDepth 100000 in
set_option maxHeartbeats 1000000 in
theorem areNear_n (sk nw : Int) (a1 : Option Addr) (k1 : Nat) (ho un : Int) (a2 : Option Addr) (m k2 : Nat) (cl kn : List (Sh.T .int)) (w : World) (t : Int) (hn : m ≤ 12) (hs : 0 ≤ sk ∧ sk ≤ 1000) (ht : 0 ≤ t ∧ t ≤ 2000000) (h : LeL w a1 m k1 a2 m k2 cl kn) :
    Calls Try.prog 48 #[.agg #[.int .i64 sk, .int .i64 nw, .slice a1 m k1, .int .i64 ho, .int .i64 un, .slice a2 m k2], .int .i64 t] w fun r w' => r = .returned (.bool (tf (∀ i, i < m → nearB sk t (atI cl i) = true))) ∧ Below w.heap.size w w' := by
  have HL : Hid (LeL w a1 m k1 a2 m k2 cl kn) := h
  have HS : Hid ((0 ≤ sk ∧ sk ≤ 1000) ∧ (0 ≤ t ∧ t ≤ 2000000)) := ⟨hs, ht⟩
  clear h hs ht
  have HB0 : Hid (Bx (w.alloc (.cells #[.int .i64 sk, .int .i64 nw, .slice a1 m k1, .int .i64 ho, .int .i64 un, .slice a2 m k2] 28)) w.heap.size [.int .i64 sk, .int .i64 nw, .slice a1 m k1, .int .i64 ho, .int .i64 un, .slice a2 m k2] ∧ Below w.heap.size w (w.alloc (.cells #[.int .i64 sk, .int .i64 nw, .slice a1 m k1, .int .i64 ho, .int .i64 un, .slice a2 m k2] 28))) := ⟨Bx.new w [_, _, _, _, _, _] _, Go.Joins.below_alloc1 _ _⟩
  go_enter Try.func48, Try.ntmps48
  go_wp2_with fail
  go_loopw [9] (fun i wr => ∃ k : Nat, k ≤ m ∧ i = .int .i64 k ∧ (∀ i, i < k → nearB sk t (atI cl i) = true) ∧ Bx wr w.heap.size [.int .i64 sk, .int .i64 nw, .slice a1 m k1, .int .i64 ho, .int .i64 un, .slice a2 m k2] ∧ Below w.heap.size w wr) (fun i _ => m - (intOf i).toNat)
  case atStart => exact ⟨0, Nat.zero_le _, rfl, fun i hi => absurd hi (by omega), HB0.out⟩
  case round =>
    obtain ⟨k, hk, rfl, hall, hbx, hBr⟩ := hrel
    clear HB0
    have HA : Hid ((∀ i, i < k → nearB sk t (atI cl i) = true) ∧ Bx wr w.heap.size [.int .i64 sk, .int .i64 nw, .slice a1 m k1, .int .i64 ho, .int .i64 un, .slice a2 m k2] ∧ Below w.heap.size w wr) := ⟨hall, hbx, hBr⟩
    clear hall
    have s0 := (hbx).cell 0 rfl; have s1 := (hbx).cell 1 rfl; have s2 := (hbx).cell 2 rfl; have s3 := (hbx).cell 3 rfl; have s4 := (hbx).cell 4 rfl; have s5 := (hbx).cell 5 rfl; have sz := (hbx).2
    by_cases hlt : k < m
    · have hlt' : (k : Int) < (m : Int) := by omega
      clear hbx hBr
      go_wp2_with fail
      refine (nodeIn_n sk nw a1 m k1 ho un a2 m k2 k wr (atI cl) (atI kn) hlt hlt (HL.out.next HA.out.2.2).clocks (HL.out.next HA.out.2.2).known).mono ?_
      rintro r w1 ⟨rfl, hb⟩
      have HB1 : Hid (Bx w1 w.heap.size [.int .i64 sk, .int .i64 nw, .slice a1 m k1, .int .i64 ho, .int .i64 un, .slice a2 m k2] ∧ Below w.heap.size w w1) := ⟨HA.out.2.1.next hb, below_next HA.out.2.2 hb⟩
      clear hb s0 s1 s2 s3 s4 s5 sz
      have s0 := (HB1.out.1).cell 0 rfl; have s1 := (HB1.out.1).cell 1 rfl; have s2 := (HB1.out.1).cell 2 rfl; have s3 := (HB1.out.1).cell 3 rfl; have s4 := (HB1.out.1).cell 4 rfl; have s5 := (HB1.out.1).cell 5 rfl; have sz := (HB1.out.1).2
      have hf := field_clock (atI cl k) sk (atI kn k) w1
      go_wp2_with fail
      refine (isNear_n _ _ _ _ HS.out.1 HS.out.2).mono ?_
      rintro r w2 ⟨rfl, hb⟩
      have HB2 : Hid (Bx w2 w.heap.size [.int .i64 sk, .int .i64 nw, .slice a1 m k1, .int .i64 ho, .int .i64 un, .slice a2 m k2] ∧ Below w.heap.size w w2) := ⟨HB1.out.1.next hb, below_next HB1.out.2 hb⟩
      clear hb s0 s1 s2 s3 s4 s5 sz hf
      cases e : nearB sk t (atI cl k)
      · have HN : Hid (¬ ∀ i, i < m → nearB sk t (atI cl i) = true) := Hid.intro (fun q => by rw [q k hlt] at e; cases e)
        go_wp2
        go_ret
        exact ⟨ret_bool (tf_no HN.out).symm, HB2.out.2⟩
      · have HN : Hid (nearB sk t (atI cl k) = true) := e
        clear e
        go_wp2
        go_roundw
        case rel => exact ⟨k + 1, by omega, by go_num, or_upto HA.out.1 HN.out, HB2.out⟩
        case measure => simp [intOf]; omega
    · have hkn : k = m := by omega
      subst hkn
      go_wp2
      go_ret
      exact ⟨ret_bool (tf_yes HA.out.1).symm, HA.out.2.2⟩


set_option maxRecDepth 100000 in
set_option maxHeartbeats 2000000 in
theorem goodLeases_n (cs : List Value) (sk nw : Int) (cl : List (Sh.T .int)) (ho un : Int) (kn : List (Sh.T .int)) (w : World) (hz : szD shLeases (sk, nw, cl, ho, un, kn, ()) ≤ 1073741824) (h : Lies w shLeases cs (sk, nw, cl, ho, un, kn, ())) :
    Calls Try.prog 14 #[.agg cs.toArray] w fun r w' => r = .returned (.bool (tf (goodL sk nw cl ho un kn))) ∧ Below w.heap.size w w' := by
  obtain ⟨a1, k1, a2, k2, rfl, h1, h2⟩ := lies_Leases h
  have hz2 := le_sizes hz
  obtain ⟨n, hnE⟩ : ∃ x, x = cl.length := ⟨_, rfl⟩
  obtain ⟨m, hmE⟩ : ∃ x, x = kn.length := ⟨_, rfl⟩
  have HL : Hid (LeL w a1 n k1 a2 m k2 cl kn) := ⟨h1, h2, hnE, hmE⟩
  rw [← hnE, ← hmE] at hz2
  rw [← hnE, ← hmE]
  obtain ⟨hn30, hm30⟩ := hz2
  clear h h1 h2 hz hnE hmE
  have HB0 : Hid (Bx (w.alloc (.cells #[.int .i64 sk, .int .i64 nw, .slice a1 n k1, .int .i64 ho, .int .i64 un, .slice a2 m k2] 28)) w.heap.size [.int .i64 sk, .int .i64 nw, .slice a1 n k1, .int .i64 ho, .int .i64 un, .slice a2 m k2] ∧ Below w.heap.size w (w.alloc (.cells #[.int .i64 sk, .int .i64 nw, .slice a1 n k1, .int .i64 ho, .int .i64 un, .slice a2 m k2] 28))) := ⟨Bx.new w [_, _, _, _, _, _] _, Go.Joins.below_alloc1 _ _⟩
  cases c0 : inR sk 0 1000
  · have HN : Hid (¬ goodL sk nw cl ho un kn) := Hid.intro (fun q => by
      have h1 := q.1
      skip
      rw [inR_iff.2 h1] at c0; cases c0)
    go_enter Try.func14, Try.ntmps14
    go_wp2_with (first | (go_at_call 45; refine (inRange_any _ _ _ _).mono ?_; rintro e w' ⟨rfl, rfl⟩))
    go_ret
    exact ⟨good_no HN.out, (by repeat (first | refine Below.setCell ?_ (by (try simp) <;> omega) _ | refine Below.alloc ?_ (by (try simp) <;> omega) _ | refine Below.drew ?_ | assumption | exact Below.refl _ _ | refine Below.trans ?_ (Below.mono (by assumption) (by (try simp) <;> omega))))⟩
  cases c1 : inR nw 0 1000000
  · have HN : Hid (¬ goodL sk nw cl ho un kn) := Hid.intro (fun q => by
      have h1 := q.2.1
      skip
      rw [inR_iff.2 h1] at c1; cases c1)
    go_enter Try.func14, Try.ntmps14
    go_wp2_with (first | (go_at_call 45; refine (inRange_any _ _ _ _).mono ?_; rintro e w' ⟨rfl, rfl⟩))
    go_ret
    exact ⟨good_no HN.out, (by repeat (first | refine Below.setCell ?_ (by (try simp) <;> omega) _ | refine Below.alloc ?_ (by (try simp) <;> omega) _ | refine Below.drew ?_ | assumption | exact Below.refl _ _ | refine Below.trans ?_ (Below.mono (by assumption) (by (try simp) <;> omega))))⟩
  cases c2 : inR un 0 2000000
  · have HN : Hid (¬ goodL sk nw cl ho un kn) := Hid.intro (fun q => by
      have h1 := q.2.2.1
      skip
      rw [inR_iff.2 h1] at c2; cases c2)
    go_enter Try.func14, Try.ntmps14
    go_wp2_with (first | (go_at_call 45; refine (inRange_any _ _ _ _).mono ?_; rintro e w' ⟨rfl, rfl⟩))
    go_ret
    exact ⟨good_no HN.out, (by repeat (first | refine Below.setCell ?_ (by (try simp) <;> omega) _ | refine Below.alloc ?_ (by (try simp) <;> omega) _ | refine Below.drew ?_ | assumption | exact Below.refl _ _ | refine Below.trans ?_ (Below.mono (by assumption) (by (try simp) <;> omega))))⟩
  cases c3 : inR (n : Int) 1 12
  · have HN : Hid (¬ goodL sk nw cl ho un kn) := Hid.intro (fun q => by
      have h1 := q.2.2.2.1
      rw [← HL.out.2.2.1] at h1
      rw [inR_iff.2 h1] at c3; cases c3)
    go_enter Try.func14, Try.ntmps14
    go_wp2_with (first | (go_at_call 45; refine (inRange_any _ _ _ _).mono ?_; rintro e w' ⟨rfl, rfl⟩))
    go_ret
    exact ⟨good_no HN.out, (by repeat (first | refine Below.setCell ?_ (by (try simp) <;> omega) _ | refine Below.alloc ?_ (by (try simp) <;> omega) _ | refine Below.drew ?_ | assumption | exact Below.refl _ _ | refine Below.trans ?_ (Below.mono (by assumption) (by (try simp) <;> omega))))⟩
  by_cases c4 : m = n
  case neg =>
    have HN : Hid (¬ goodL sk nw cl ho un kn) := Hid.intro (fun q => c4 (by have h1 := q.2.2.2.2.1; rw [← HL.out.2.2.1, ← HL.out.2.2.2] at h1; exact h1))
    have c4' : ¬ (m : Int) = (n : Int) := by omega
    have c4b : ((m : Int) != (n : Int)) = true := by simp; omega
    go_enter Try.func14, Try.ntmps14
    go_wp2_with (first | (go_at_call 45; refine (inRange_any _ _ _ _).mono ?_; rintro e w' ⟨rfl, rfl⟩))
    go_ret
    exact ⟨good_no HN.out, (by repeat (first | refine Below.setCell ?_ (by (try simp) <;> omega) _ | refine Below.alloc ?_ (by (try simp) <;> omega) _ | refine Below.drew ?_ | assumption | exact Below.refl _ _ | refine Below.trans ?_ (Below.mono (by assumption) (by (try simp) <;> omega))))⟩
  subst c4
  have HM : Hid (m = cl.length ∧ m = kn.length) := ⟨HL.out.2.2.1, HL.out.2.2.2⟩
  have hsk := inR_iff.1 c0
  have hnw := inR_iff.1 c1
  have hun := inR_iff.1 c2
  have hnc := inR_iff.1 c3
  have HR : Hid ((0 ≤ sk ∧ sk ≤ 1000) ∧ (0 ≤ nw ∧ nw ≤ 1000000) ∧ (0 ≤ un ∧ un ≤ 2000000) ∧ (1 ≤ (m : Int) ∧ (m : Int) ≤ 12)) := ⟨hsk, hnw, hun, hnc⟩
  cases c5 : inR ho (-1) ((m : Int) - 1)
  · have HN : Hid (¬ goodL sk nw cl ho un kn) := Hid.intro (fun q => by
      have h1 := q.2.2.2.2.2.1
      rw [← HL.out.2.2.1] at h1
      rw [inR_iff.2 h1] at c5; cases c5)
    have hne : ¬ ho = -1 := fun q => by rw [q, inR_iff.2 (by omega)] at c5; cases c5
    have hneb : (ho != -1) = true := by simp [hne]
    have hin : inR ho 0 ((m : Int) - 1) = false := by
      cases e : inR ho 0 ((m : Int) - 1)
      · rfl
      · have := inR_iff.1 e; rw [inR_iff.2 (by omega)] at c5; cases c5
    have HH : Hid (inR ho 0 ((m : Int) - 1) = false) := hin
    go_enter Try.func14, Try.ntmps14
    go_wp2_with (first | (go_at_call 45; refine (inRange_any _ _ _ _).mono ?_; rintro e w' ⟨rfl, rfl⟩) | (go_at_call 46; refine (HH.out ▸ hasNode_n sk nw a1 m k1 ho un _ ho _ hn30 ⟨a2, m, k2, rfl⟩).mono ?_; rintro r w1 ⟨rfl, hb⟩; have HB1 : Hid (Below w.heap.size w w1) := Hid.intro (below_next HB0.out.2 hb); clear hb))
    go_ret
    exact ⟨good_no HN.out, HB1.out⟩
  have hho := inR_iff.1 c5
  have HO : Hid (-1 ≤ ho ∧ ho ≤ (m : Int) - 1) := hho
  clear c5
  have HFIN : Hid ((∀ i, i < m → inR (atI kn i) 0 (toldN nw ho un i) = true) → tf (∀ i, i < m → nearB sk nw (atI cl i) = true) = tf (goodL sk nw cl ho un kn)) := Hid.intro (fun hT => tf_eq ⟨fun q => ⟨HR.out.1, HR.out.2.1, HR.out.2.2.1, by rw [← HL.out.2.2.1]; exact HR.out.2.2.2, by rw [← HL.out.2.2.1, ← HL.out.2.2.2], by rw [← HL.out.2.2.1]; exact HO.out, fun i hi => ⟨q i (by rw [HL.out.2.2.1]; exact hi), told_iff.1 (hT i (by rw [HL.out.2.2.1]; exact hi))⟩⟩, fun q i hi => (q.2.2.2.2.2.2 i (by rw [← HL.out.2.2.1]; exact hi)).1⟩)
  have HBAD : Hid (∀ i, i < m → inR (atI kn i) 0 (toldN nw ho un i) = false → ¬ goodL sk nw cl ho un kn) := Hid.intro (fun i hi e q => by rw [told_iff.2 (q.2.2.2.2.2.2 i (by rw [← HL.out.2.2.1]; exact hi)).2] at e; cases e)
  by_cases hm1 : ho = -1
  · have hm1b : (ho != -1) = false := by simp [hm1]
    clear hm1
    go_enter Try.func14, Try.ntmps14
    go_wp2_with (first | (go_at_call 45; refine (inRange_any _ _ _ _).mono ?_; rintro e w' ⟨rfl, rfl⟩))
    obtain ⟨w1, hw1⟩ : ∃ x, x = w.alloc (.cells #[.int .i64 sk, .int .i64 nw, .slice a1 m k1, .int .i64 ho, .int .i64 un, .slice a2 m k2] 28) := ⟨_, rfl⟩
    rw [← hw1] at HB0 ⊢
    clear hw1 hm1b c0 c1 c2 c3
    have HB1 := HB0
    clear HB0
    go_loopw [48] (fun i wr => ∃ k : Nat, k ≤ m ∧ i = .int .i64 k ∧ (∀ i, i < k → inR (atI kn i) 0 (toldN nw ho un i) = true) ∧ Bx wr w.heap.size [.int .i64 sk, .int .i64 nw, .slice a1 m k1, .int .i64 ho, .int .i64 un, .slice a2 m k2] ∧ Below w.heap.size w wr) (fun i _ => m - (intOf i).toNat)
    case atStart => exact ⟨0, Nat.zero_le _, rfl, fun i hi => absurd hi (by omega), HB1.out⟩
    case round =>
      obtain ⟨k, hk, rfl, hall, hbx, hBr⟩ := hrel
      clear HB1
      have HA : Hid ((∀ i, i < k → inR (atI kn i) 0 (toldN nw ho un i) = true) ∧ Bx wr w.heap.size [.int .i64 sk, .int .i64 nw, .slice a1 m k1, .int .i64 ho, .int .i64 un, .slice a2 m k2] ∧ Below w.heap.size w wr) := ⟨hall, hbx, hBr⟩
      clear hall
      have s0 := (hbx).cell 0 rfl; have s1 := (hbx).cell 1 rfl; have s2 := (hbx).cell 2 rfl; have s3 := (hbx).cell 3 rfl; have s4 := (hbx).cell 4 rfl; have s5 := (hbx).cell 5 rfl; have sz := (hbx).2
      by_cases hlt : k < m
      · have hlt' : (k : Int) < (m : Int) := by omega
        rcases (HL.out.next HA.out.2.2).known with h | ⟨b2, o2, rfl, hb2, hE2⟩
        · omega
        have c2 := int_cell hE2 hlt
        clear hbx hBr hE2
        go_wp2_with fail
        refine (toldAtMost_n sk nw a1 m k1 ho un _ m k2 k wr).mono ?_
        rintro r w2 ⟨rfl, hb⟩
        have HB2 : Hid (Bx w2 w.heap.size [.int .i64 sk, .int .i64 nw, .slice a1 m k1, .int .i64 ho, .int .i64 un, .slice (some ⟨b2, o2, none⟩) m k2] ∧ Below w.heap.size w w2) := ⟨HA.out.2.1.next hb, below_next HA.out.2.2 hb⟩
        clear hb s0 s1 s2 s3 s4 s5 sz c2
        cases e : inR (atI kn k) 0 (toldN nw ho un k)
        · have HN : Hid (¬ goodL sk nw cl ho un kn) := Hid.intro (HBAD.out k hlt e)
          go_wp2_with (first | (go_at_call 45; refine (inRange_any _ _ _ _).mono ?_; rintro e w' ⟨rfl, rfl⟩))
          go_ret
          exact ⟨good_no HN.out, HB2.out.2⟩
        · have HN : Hid (inR (atI kn k) 0 (toldN nw ho un k) = true) := e
          go_wp2_with (first | (go_at_call 45; refine (inRange_any _ _ _ _).mono ?_; rintro e w' ⟨rfl, rfl⟩))
          clear e
          go_roundw
          case rel => exact ⟨k + 1, by omega, by go_num, or_upto HA.out.1 HN.out, HB2.out⟩
          case measure => simp [intOf]; omega
      · have hkn : k = m := by omega
        subst hkn
        go_wp2_with fail
        refine (areNear_n sk nw a1 k1 ho un a2 k k2 cl kn wr nw (by omega) HR.out.1 (by omega) (HL.out.next HA.out.2.2)).mono ?_
        rintro r w2 ⟨rfl, hb⟩
        have HB2 : Hid (Below w.heap.size w w2) := below_next HA.out.2.2 hb
        clear hb s0 s1 s2 s3 s4 s5 sz
        go_wp2
        go_ret
        exact ⟨ret_bool (HFIN.out HA.out.1), HB2.out⟩
  · have hm1b : (ho != -1) = true := by simp [hm1]
    have HH : Hid (inR ho 0 ((m : Int) - 1) = true) := Hid.intro (inR_iff.2 (by omega))
    go_enter Try.func14, Try.ntmps14
    go_wp2_with (first | (go_at_call 45; refine (inRange_any _ _ _ _).mono ?_; rintro e w' ⟨rfl, rfl⟩) | (go_at_call 46; refine (HH.out ▸ hasNode_n sk nw a1 m k1 ho un _ ho _ hn30 ⟨a2, m, k2, rfl⟩).mono ?_; rintro r w1 ⟨rfl, hb⟩; have HB1 : Hid (Bx w1 w.heap.size [.int .i64 sk, .int .i64 nw, .slice a1 m k1, .int .i64 ho, .int .i64 un, .slice a2 m k2] ∧ Below w.heap.size w w1) := Hid.intro ⟨HB0.out.1.next hb, below_next HB0.out.2 hb⟩; clear hb HB0; have s0 := HB1.out.1.cell 0 rfl; have s1 := HB1.out.1.cell 1 rfl; have s2 := HB1.out.1.cell 2 rfl; have s3 := HB1.out.1.cell 3 rfl; have s4 := HB1.out.1.cell 4 rfl; have s5 := HB1.out.1.cell 5 rfl; have sz := HB1.out.1.2))
    clear s0 s1 s2 s3 s4 s5 sz hm1b c0 c1 c2 c3
    go_loopw [48] (fun i wr => ∃ k : Nat, k ≤ m ∧ i = .int .i64 k ∧ (∀ i, i < k → inR (atI kn i) 0 (toldN nw ho un i) = true) ∧ Bx wr w.heap.size [.int .i64 sk, .int .i64 nw, .slice a1 m k1, .int .i64 ho, .int .i64 un, .slice a2 m k2] ∧ Below w.heap.size w wr) (fun i _ => m - (intOf i).toNat)
    case atStart => exact ⟨0, Nat.zero_le _, rfl, fun i hi => absurd hi (by omega), HB1.out⟩
    case round =>
      obtain ⟨k, hk, rfl, hall, hbx, hBr⟩ := hrel
      clear HB1
      have HA : Hid ((∀ i, i < k → inR (atI kn i) 0 (toldN nw ho un i) = true) ∧ Bx wr w.heap.size [.int .i64 sk, .int .i64 nw, .slice a1 m k1, .int .i64 ho, .int .i64 un, .slice a2 m k2] ∧ Below w.heap.size w wr) := ⟨hall, hbx, hBr⟩
      clear hall
      have s0 := (hbx).cell 0 rfl; have s1 := (hbx).cell 1 rfl; have s2 := (hbx).cell 2 rfl; have s3 := (hbx).cell 3 rfl; have s4 := (hbx).cell 4 rfl; have s5 := (hbx).cell 5 rfl; have sz := (hbx).2
      by_cases hlt : k < m
      · have hlt' : (k : Int) < (m : Int) := by omega
        rcases (HL.out.next HA.out.2.2).known with h | ⟨b2, o2, rfl, hb2, hE2⟩
        · omega
        have c2 := int_cell hE2 hlt
        clear hbx hBr hE2
        go_wp2_with fail
        refine (toldAtMost_n sk nw a1 m k1 ho un _ m k2 k wr).mono ?_
        rintro r w2 ⟨rfl, hb⟩
        have HB2 : Hid (Bx w2 w.heap.size [.int .i64 sk, .int .i64 nw, .slice a1 m k1, .int .i64 ho, .int .i64 un, .slice (some ⟨b2, o2, none⟩) m k2] ∧ Below w.heap.size w w2) := ⟨HA.out.2.1.next hb, below_next HA.out.2.2 hb⟩
        clear hb s0 s1 s2 s3 s4 s5 sz c2
        cases e : inR (atI kn k) 0 (toldN nw ho un k)
        · have HN : Hid (¬ goodL sk nw cl ho un kn) := Hid.intro (HBAD.out k hlt e)
          go_wp2_with (first | (go_at_call 45; refine (inRange_any _ _ _ _).mono ?_; rintro e w' ⟨rfl, rfl⟩))
          go_ret
          exact ⟨good_no HN.out, HB2.out.2⟩
        · have HN : Hid (inR (atI kn k) 0 (toldN nw ho un k) = true) := e
          go_wp2_with (first | (go_at_call 45; refine (inRange_any _ _ _ _).mono ?_; rintro e w' ⟨rfl, rfl⟩))
          clear e
          go_roundw
          case rel => exact ⟨k + 1, by omega, by go_num, or_upto HA.out.1 HN.out, HB2.out⟩
          case measure => simp [intOf]; omega
      · have hkn : k = m := by omega
        subst hkn
        go_wp2_with fail
        refine (areNear_n sk nw a1 k1 ho un a2 k k2 cl kn wr nw (by omega) HR.out.1 (by omega) (HL.out.next HA.out.2.2)).mono ?_
        rintro r w2 ⟨rfl, hb⟩
        have HB2 : Hid (Below w.heap.size w w2) := below_next HA.out.2.2 hb
        clear hb s0 s1 s2 s3 s4 s5 sz
        go_wp2
        go_ret
        exact ⟨ret_bool (HFIN.out HA.out.1), HB2.out⟩

end Go.Proofs.Ytidalpgkljafdaa
