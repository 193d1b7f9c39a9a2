/- Leases: spec.GoodLeases. Written by tools/mkLeS.py. -/
import Derived.Test.YtidalpgkljafdaaLeB
namespace Go.Proofs.Ytidalpgkljafdaa
open Go.RowKit
set_option linter.unusedVariables false
set_option linter.unusedSimpArgs false


set_option maxRecDepth 100000 in
set_option maxHeartbeats 2000000 in
theorem specGoodLeases_n (cs : List Value) (sk nw : Int) (cl : List (Sh.T .int)) (ho un : Int) (kn : List (Sh.T .int)) (w : World) (hz : szD shLeases (sk, nw, cl, ho, un, kn, ()) ≤ 1073741824) (h : Lies w shLeases cs (sk, nw, cl, ho, un, kn, ())) :
    Calls Try.prog 27 #[.agg cs.toArray] w fun r w' => r = .returned (.bool (tf (goodL sk nw cl ho un kn))) ∧ Below w.heap.size w w' := by
  obtain ⟨a1, k1, a2, k2, rfl, h1, h2⟩ := lies_Leases h
  have hz2 := le_sizes hz
  obtain ⟨n, hnE⟩ : ∃ x, x = cl.length := ⟨_, rfl⟩
  obtain ⟨m, hmE⟩ : ∃ x, x = kn.length := ⟨_, rfl⟩
  have HL : Hid (LeL w a1 n k1 a2 m k2 cl kn) := ⟨h1, h2, hnE, hmE⟩
  rw [← hnE, ← hmE] at hz2
  rw [← hnE, ← hmE]
  obtain ⟨hn30, hm30⟩ := hz2
  clear h h1 h2 hz hnE hmE
  have HB0 : Hid (Bx (w.alloc (.cells #[.int .i64 sk, .int .i64 nw, .slice a1 n k1, .int .i64 ho, .int .i64 un, .slice a2 m k2] 28)) w.heap.size [.int .i64 sk, .int .i64 nw, .slice a1 n k1, .int .i64 ho, .int .i64 un, .slice a2 m k2] ∧ Below w.heap.size w (w.alloc (.cells #[.int .i64 sk, .int .i64 nw, .slice a1 n k1, .int .i64 ho, .int .i64 un, .slice a2 m k2] 28))) := ⟨Bx.new w [_, _, _, _, _, _] _, Go.Joins.below_alloc1 _ _⟩
  cases c0 : inR sk 0 1000
  · have HN : Hid (¬ goodL sk nw cl ho un kn) := Hid.intro (fun q => by
      have h1 := q.1
      skip
      rw [inR_iff.2 h1] at c0; cases c0)
    go_enter Try.func27, Try.ntmps27
    go_wp2_with (first | (go_at_call 55; refine (l1In_any _ _ _ _).mono ?_; rintro e w' ⟨rfl, rfl⟩) | (go_at_call 54; refine (l8Nodes_n _ _).mono ?_; rintro e w' ⟨rfl, rfl⟩))
    go_ret
    exact ⟨good_no HN.out, (by repeat (first | refine Below.setCell ?_ (by (try simp) <;> omega) _ | refine Below.alloc ?_ (by (try simp) <;> omega) _ | refine Below.drew ?_ | assumption | exact Below.refl _ _ | refine Below.trans ?_ (Below.mono (by assumption) (by (try simp) <;> omega))))⟩
  cases c1 : inR nw 0 1000000
  · have HN : Hid (¬ goodL sk nw cl ho un kn) := Hid.intro (fun q => by
      have h1 := q.2.1
      skip
      rw [inR_iff.2 h1] at c1; cases c1)
    go_enter Try.func27, Try.ntmps27
    go_wp2_with (first | (go_at_call 55; refine (l1In_any _ _ _ _).mono ?_; rintro e w' ⟨rfl, rfl⟩) | (go_at_call 54; refine (l8Nodes_n _ _).mono ?_; rintro e w' ⟨rfl, rfl⟩))
    go_ret
    exact ⟨good_no HN.out, (by repeat (first | refine Below.setCell ?_ (by (try simp) <;> omega) _ | refine Below.alloc ?_ (by (try simp) <;> omega) _ | refine Below.drew ?_ | assumption | exact Below.refl _ _ | refine Below.trans ?_ (Below.mono (by assumption) (by (try simp) <;> omega))))⟩
  cases c3 : inR (n : Int) 1 12
  · have HN : Hid (¬ goodL sk nw cl ho un kn) := Hid.intro (fun q => by
      have h1 := q.2.2.2.1
      rw [← HL.out.2.2.1] at h1
      rw [inR_iff.2 h1] at c3; cases c3)
    go_enter Try.func27, Try.ntmps27
    go_wp2_with (first | (go_at_call 55; refine (l1In_any _ _ _ _).mono ?_; rintro e w' ⟨rfl, rfl⟩) | (go_at_call 54; refine (l8Nodes_n _ _).mono ?_; rintro e w' ⟨rfl, rfl⟩))
    go_ret
    exact ⟨good_no HN.out, (by repeat (first | refine Below.setCell ?_ (by (try simp) <;> omega) _ | refine Below.alloc ?_ (by (try simp) <;> omega) _ | refine Below.drew ?_ | assumption | exact Below.refl _ _ | refine Below.trans ?_ (Below.mono (by assumption) (by (try simp) <;> omega))))⟩
  by_cases c4 : m = n
  case neg =>
    have HN : Hid (¬ goodL sk nw cl ho un kn) := Hid.intro (fun q => c4 (by have h1 := q.2.2.2.2.1; rw [← HL.out.2.2.1, ← HL.out.2.2.2] at h1; exact h1))
    have c4' : ¬ (m : Int) = (n : Int) := by omega
    have c4b : ((m : Int) != (n : Int)) = true := by simp; omega
    go_enter Try.func27, Try.ntmps27
    go_wp2_with (first | (go_at_call 55; refine (l1In_any _ _ _ _).mono ?_; rintro e w' ⟨rfl, rfl⟩) | (go_at_call 54; refine (l8Nodes_n _ _).mono ?_; rintro e w' ⟨rfl, rfl⟩))
    go_ret
    exact ⟨good_no HN.out, (by repeat (first | refine Below.setCell ?_ (by (try simp) <;> omega) _ | refine Below.alloc ?_ (by (try simp) <;> omega) _ | refine Below.drew ?_ | assumption | exact Below.refl _ _ | refine Below.trans ?_ (Below.mono (by assumption) (by (try simp) <;> omega))))⟩
  subst c4
  have HM : Hid (m = cl.length ∧ m = kn.length) := ⟨HL.out.2.2.1, HL.out.2.2.2⟩
  cases c5 : inR ho (-1) ((m : Int) - 1)
  · have HN : Hid (¬ goodL sk nw cl ho un kn) := Hid.intro (fun q => by
      have h1 := q.2.2.2.2.2.1
      rw [← HL.out.2.2.1] at h1
      rw [inR_iff.2 h1] at c5; cases c5)
    go_enter Try.func27, Try.ntmps27
    go_wp2_with (first | (go_at_call 55; refine (l1In_any _ _ _ _).mono ?_; rintro e w' ⟨rfl, rfl⟩) | (go_at_call 54; refine (l8Nodes_n _ _).mono ?_; rintro e w' ⟨rfl, rfl⟩))
    go_ret
    exact ⟨good_no HN.out, (by repeat (first | refine Below.setCell ?_ (by (try simp) <;> omega) _ | refine Below.alloc ?_ (by (try simp) <;> omega) _ | refine Below.drew ?_ | assumption | exact Below.refl _ _ | refine Below.trans ?_ (Below.mono (by assumption) (by (try simp) <;> omega))))⟩
  cases c2 : inR un 0 2000000
  · have HN : Hid (¬ goodL sk nw cl ho un kn) := Hid.intro (fun q => by
      have h1 := q.2.2.1
      skip
      rw [inR_iff.2 h1] at c2; cases c2)
    go_enter Try.func27, Try.ntmps27
    go_wp2_with (first | (go_at_call 55; refine (l1In_any _ _ _ _).mono ?_; rintro e w' ⟨rfl, rfl⟩) | (go_at_call 54; refine (l8Nodes_n _ _).mono ?_; rintro e w' ⟨rfl, rfl⟩))
    go_ret
    exact ⟨good_no HN.out, (by repeat (first | refine Below.setCell ?_ (by (try simp) <;> omega) _ | refine Below.alloc ?_ (by (try simp) <;> omega) _ | refine Below.drew ?_ | assumption | exact Below.refl _ _ | refine Below.trans ?_ (Below.mono (by assumption) (by (try simp) <;> omega))))⟩
  have hsk := inR_iff.1 c0
  have hnw := inR_iff.1 c1
  have hun := inR_iff.1 c2
  have hnc := inR_iff.1 c3
  have hho := inR_iff.1 c5
  have HR : Hid ((0 ≤ sk ∧ sk ≤ 1000) ∧ (0 ≤ nw ∧ nw ≤ 1000000) ∧ (0 ≤ un ∧ un ≤ 2000000) ∧ (1 ≤ (m : Int) ∧ (m : Int) ≤ 12) ∧ (-1 ≤ ho ∧ ho ≤ (m : Int) - 1)) := ⟨hsk, hnw, hun, hnc, hho⟩
  have HBAD : Hid (∀ i, i < m → ¬ nodeP sk nw ho un i (atI cl i) (atI kn i) → ¬ goodL sk nw cl ho un kn) := Hid.intro (fun i hi e q => e (q.2.2.2.2.2.2 i (by rw [← HL.out.2.2.1]; exact hi)))
  have HFIN : Hid ((∀ i, i < m → nodeP sk nw ho un i (atI cl i) (atI kn i)) → goodL sk nw cl ho un kn) := Hid.intro (fun hT => ⟨HR.out.1, HR.out.2.1, HR.out.2.2.1, by rw [← HL.out.2.2.1]; exact HR.out.2.2.2.1, by rw [← HL.out.2.2.1, ← HL.out.2.2.2], by rw [← HL.out.2.2.1]; exact HR.out.2.2.2.2, fun i hi => hT i (by rw [HL.out.2.2.1]; exact hi)⟩)
  go_enter Try.func27, Try.ntmps27
  go_wp2_with (first | (go_at_call 55; refine (l1In_any _ _ _ _).mono ?_; rintro e w' ⟨rfl, rfl⟩) | (go_at_call 54; refine (l8Nodes_n _ _).mono ?_; rintro e w' ⟨rfl, rfl⟩))
  obtain ⟨w1, hw1⟩ : ∃ x, x = w.alloc (.cells #[.int .i64 sk, .int .i64 nw, .slice a1 m k1, .int .i64 ho, .int .i64 un, .slice a2 m k2] 28) := ⟨_, rfl⟩
  rw [← hw1] at HB0 ⊢
  clear hw1 c0 c1 c2 c3 c5
  go_loopw [48] (fun i wr => ∃ k : Nat, k ≤ m ∧ i = .int .i64 k ∧ (∀ i, i < k → nodeP sk nw ho un i (atI cl i) (atI kn i)) ∧ Bx wr w.heap.size [.int .i64 sk, .int .i64 nw, .slice a1 m k1, .int .i64 ho, .int .i64 un, .slice a2 m k2] ∧ Below w.heap.size w wr) (fun i _ => m - (intOf i).toNat)
  case atStart => exact ⟨0, Nat.zero_le _, rfl, fun i hi => absurd hi (by omega), HB0.out⟩
  case round =>
    obtain ⟨k, hk, rfl, hall, hbx, hBr⟩ := hrel
    clear HB0
    have HA : Hid ((∀ i, i < k → nodeP sk nw ho un i (atI cl i) (atI kn i)) ∧ Bx wr w.heap.size [.int .i64 sk, .int .i64 nw, .slice a1 m k1, .int .i64 ho, .int .i64 un, .slice a2 m k2] ∧ Below w.heap.size w wr) := ⟨hall, hbx, hBr⟩
    clear hall
    by_cases hlt : k < m
    · have hlt' : (k : Int) < (m : Int) := by omega
      rcases (HL.out.next hBr).clocks with h | ⟨b1, o1, rfl, hb1, hE1⟩
      · omega
      rcases (HL.out.next hBr).known with h | ⟨b2, o2, rfl, hb2, hE2⟩
      · omega
      have q1 := int_cell hE1 hlt
      have q2 := int_cell hE2 hlt
      clear hE1 hE2
      have s0 := (hbx).cell 0 rfl; have s1 := (hbx).cell 1 rfl; have s2 := (hbx).cell 2 rfl; have s3 := (hbx).cell 3 rfl; have s4 := (hbx).cell 4 rfl; have s5 := (hbx).cell 5 rfl; have sz := (hbx).2
      have HXc : Hid (∀ c x, atI cl k = c → atI kn k = x → ¬ nodeP sk nw ho un k c x → ¬ goodL sk nw cl ho un kn) := Hid.intro (fun c x e1 e2 hn => HBAD.out k hlt (by rw [e1, e2]; exact hn))
      obtain ⟨c, hcE⟩ : ∃ y, y = atI cl k := ⟨_, rfl⟩
      obtain ⟨x, hxE⟩ : ∃ y, y = atI kn k := ⟨_, rfl⟩
      rw [← hcE] at q1
      rw [← hxE] at q2
      have HE : Hid (atI cl k = c ∧ atI kn k = x) := ⟨hcE.symm, hxE.symm⟩
      clear hcE hxE
      have HBX : Hid (Bx wr.drew w.heap.size [.int .i64 sk, .int .i64 nw, .slice (some ⟨b1, o1, none⟩) m k1, .int .i64 ho, .int .i64 un, .slice (some ⟨b2, o2, none⟩) m k2]) := hbx.next (below_drew _)
      have HB2 : Hid (Below w.heap.size w wr.drew) := below_next hBr (below_drew _)
      have HS0 : Hid (Bx wr.drew w.heap.size [.int .i64 sk, .int .i64 nw, .slice (some ⟨b1, o1, none⟩) m k1, .int .i64 ho, .int .i64 un, .slice (some ⟨b2, o2, none⟩) m k2] ∧ wr.drew.cell? ⟨b1, o1 + k, none⟩ = some (.int .i64 c) ∧ wr.drew.cell? ⟨b2, o2 + k, none⟩ = some (.int .i64 x) ∧ (b1 < wr.drew.heap.size ∧ b2 < wr.drew.heap.size)) := ⟨hbx.next (below_drew _), q1, q2, hb1, hb2⟩
      clear hbx hBr
      go_upto_region 7 with fail
      clear s0 s1 s2 s3 s4 s5 sz
      by_cases e1 : c < 0
      · have e1b : decide (c < 0) = true := decide_eq_true e1
        have HN : Hid (¬ goodL sk nw cl ho un kn) := Hid.intro (HXc.out c x HE.out.1 HE.out.2 (fun q => by have := (nearB_iff.1 q.1).1; omega))
        refine wp_region_noPanic ?_
        refine wp_region_held_drew (S := fun W => Bx W w.heap.size [.int .i64 sk, .int .i64 nw, .slice (some ⟨b1, o1, none⟩) m k1, .int .i64 ho, .int .i64 un, .slice (some ⟨b2, o2, none⟩) m k2] ∧ W.cell? ⟨b1, o1 + k, none⟩ = some (.int .i64 c) ∧ W.cell? ⟨b2, o2 + k, none⟩ = some (.int .i64 x) ∧ (b1 < W.heap.size ∧ b2 < W.heap.size)) (by kernel_rfl) HS0.out (fun hHeld => ?_)
        refine take_v (v := ?_) 0 ⟨some 53, Op.move (Operand.tmp 5), _, _, _, none⟩ rfl (fun _ _ _ h => h) ?_ hHeld ?_
        rotate_left
        · (intro W _; go_simp <;> (try with_reducible rfl))
        refine take_v (v := ?_) 1 ⟨some 54, Op.binOp BinOp.lss 3 (Operand.tmp 53) (Operand.const (Value.int IntKind.i64 0)) 3, _, _, _, none⟩ rfl (fun _ _ _ h => h) ?_ hHeld ?_
        rotate_left
        · (intro W _; go_simp <;> (try with_reducible rfl))
        refine take_v (v := ?_) 2 ⟨some 55, Op.move (Operand.tmp 54), _, _, _, none⟩ rfl (fun _ _ _ h => h) ?_ hHeld ?_
        rotate_left
        · (intro W _; go_simp <;> (try with_reducible rfl))
        refine take_n 3 ⟨some 56, Op.move (Operand.tmp 5), _, _, _, some (2, false)⟩ rfl (fun _ _ _ h => h) hHeld ?_
        refine take_n 4 ⟨some 57, Op.fieldAddr 28 (Operand.tmp 1) 1, _, _, _, some (2, false)⟩ rfl (fun _ _ _ h => h) hHeld ?_
        refine take_n 5 ⟨some 58, Op.load 3 (Operand.tmp 57), _, _, _, some (2, false)⟩ rfl (fun _ _ _ h => h) hHeld ?_
        refine take_n 6 ⟨some 59, Op.fieldAddr 28 (Operand.tmp 1) 0, _, _, _, some (2, false)⟩ rfl (fun _ _ _ h => h) hHeld ?_
        refine take_n 7 ⟨some 60, Op.load 3 (Operand.tmp 59), _, _, _, some (2, false)⟩ rfl (fun _ _ _ h => h) hHeld ?_
        refine take_n 8 ⟨some 61, Op.binOp BinOp.sub 3 (Operand.tmp 58) (Operand.tmp 60) 3, _, _, _, some (2, false)⟩ rfl (fun _ _ _ h => h) hHeld ?_
        refine take_n 9 ⟨some 62, Op.fieldAddr 28 (Operand.tmp 1) 1, _, _, _, some (2, false)⟩ rfl (fun _ _ _ h => h) hHeld ?_
        refine take_n 10 ⟨some 63, Op.load 3 (Operand.tmp 62), _, _, _, some (2, false)⟩ rfl (fun _ _ _ h => h) hHeld ?_
        refine take_n 11 ⟨some 64, Op.fieldAddr 28 (Operand.tmp 1) 0, _, _, _, some (2, false)⟩ rfl (fun _ _ _ h => h) hHeld ?_
        refine take_n 12 ⟨some 65, Op.load 3 (Operand.tmp 64), _, _, _, some (2, false)⟩ rfl (fun _ _ _ h => h) hHeld ?_
        refine take_n 13 ⟨some 66, Op.binOp BinOp.add 3 (Operand.tmp 63) (Operand.tmp 65) 3, _, _, _, some (2, false)⟩ rfl (fun _ _ _ h => h) hHeld ?_
        refine take_n 14 ⟨some 67, Op.call { callee := Callee.value (Operand.func 55), args := #[Operand.tmp 56, Operand.tmp 61, Operand.tmp 66], argTypes := #[3, 3, 3] }, _, _, _, some (2, false)⟩ rfl (fun _ _ _ h => h) hHeld ?_
        refine take_n 15 ⟨some 68, Op.unOp UnOp.not 4 (Operand.tmp 67), _, _, _, some (2, false)⟩ rfl (fun _ _ _ h => h) hHeld ?_
        refine take_v (v := ?_) 16 ⟨some 69, Op.pick (Operand.tmp 55) (Operand.const (Value.bool true)) (Operand.tmp 68), _, _, _, none⟩ rfl (fun _ _ _ h => h) ?_ hHeld ?_
        rotate_left
        · (intro W _; go_simp <;> (try with_reducible rfl))
        refine take_v (v := ?_) 17 ⟨some 70, Op.move (Operand.tmp 69), _, _, _, none⟩ rfl (fun _ _ _ h => h) ?_ hHeld ?_
        rotate_left
        · (intro W _; go_simp <;> (try with_reducible rfl))
        refine take_n 18 ⟨some 71, Op.fieldAddr 28 (Operand.tmp 1) 5, _, _, _, some (17, false)⟩ rfl (fun _ _ _ h => h) hHeld ?_
        refine take_n 19 ⟨some 72, Op.load 26 (Operand.tmp 71), _, _, _, some (17, false)⟩ rfl (fun _ _ _ h => h) hHeld ?_
        refine take_n 20 ⟨some 73, Op.move (Operand.tmp 4), _, _, _, some (17, false)⟩ rfl (fun _ _ _ h => h) hHeld ?_
        refine take_n 21 ⟨some 74, Op.indexAddr 26 (Operand.tmp 72) (Operand.tmp 73), _, _, _, some (17, false)⟩ rfl (fun _ _ _ h => h) hHeld ?_
        refine take_n 22 ⟨some 75, Op.load 3 (Operand.tmp 74), _, _, _, some (17, false)⟩ rfl (fun _ _ _ h => h) hHeld ?_
        refine take_n 23 ⟨some 76, Op.fieldAddr 28 (Operand.tmp 1) 4, _, _, _, some (17, false)⟩ rfl (fun _ _ _ h => h) hHeld ?_
        refine take_n 24 ⟨some 77, Op.load 3 (Operand.tmp 76), _, _, _, some (17, false)⟩ rfl (fun _ _ _ h => h) hHeld ?_
        refine take_n 25 ⟨some 78, Op.call { callee := Callee.value (Operand.func 55), args := #[Operand.tmp 75, Operand.const (Value.int IntKind.i64 0), Operand.tmp 77], argTypes := #[3, 3, 3] }, _, _, _, some (17, false)⟩ rfl (fun _ _ _ h => h) hHeld ?_
        refine take_n 26 ⟨some 79, Op.unOp UnOp.not 4 (Operand.tmp 78), _, _, _, some (17, false)⟩ rfl (fun _ _ _ h => h) hHeld ?_
        refine take_v (v := ?_) 27 ⟨some 80, Op.pick (Operand.tmp 70) (Operand.const (Value.bool true)) (Operand.tmp 79), _, _, _, none⟩ rfl (fun _ _ _ h => h) ?_ hHeld ?_
        rotate_left
        · (intro W _; go_simp <;> (try with_reducible rfl))
        refine take_v (v := ?_) 28 ⟨some 81, Op.move (Operand.tmp 80), _, _, _, none⟩ rfl (fun _ _ _ h => h) ?_ hHeld ?_
        rotate_left
        · (intro W _; go_simp <;> (try with_reducible rfl))
        refine take_n 29 ⟨some 82, Op.move (Operand.tmp 4), _, _, _, some (28, false)⟩ rfl (fun _ _ _ h => h) hHeld ?_
        refine take_n 30 ⟨some 83, Op.fieldAddr 28 (Operand.tmp 1) 3, _, _, _, some (28, false)⟩ rfl (fun _ _ _ h => h) hHeld ?_
        refine take_n 31 ⟨some 84, Op.load 3 (Operand.tmp 83), _, _, _, some (28, false)⟩ rfl (fun _ _ _ h => h) hHeld ?_
        refine take_n 32 ⟨some 85, Op.binOp BinOp.neq 3 (Operand.tmp 82) (Operand.tmp 84) 3, _, _, _, some (28, false)⟩ rfl (fun _ _ _ h => h) hHeld ?_
        refine take_n 33 ⟨some 86, Op.move (Operand.tmp 85), _, _, _, some (28, false)⟩ rfl (fun _ _ _ h => h) hHeld ?_
        refine take_n 34 ⟨some 87, Op.fieldAddr 28 (Operand.tmp 1) 5, _, _, _, some (33, true)⟩ rfl (fun _ _ _ h => h) hHeld ?_
        refine take_n 35 ⟨some 88, Op.load 26 (Operand.tmp 87), _, _, _, some (33, true)⟩ rfl (fun _ _ _ h => h) hHeld ?_
        refine take_n 36 ⟨some 89, Op.move (Operand.tmp 4), _, _, _, some (33, true)⟩ rfl (fun _ _ _ h => h) hHeld ?_
        refine take_n 37 ⟨some 90, Op.indexAddr 26 (Operand.tmp 88) (Operand.tmp 89), _, _, _, some (33, true)⟩ rfl (fun _ _ _ h => h) hHeld ?_
        refine take_n 38 ⟨some 91, Op.load 3 (Operand.tmp 90), _, _, _, some (33, true)⟩ rfl (fun _ _ _ h => h) hHeld ?_
        refine take_n 39 ⟨some 92, Op.fieldAddr 28 (Operand.tmp 1) 1, _, _, _, some (33, true)⟩ rfl (fun _ _ _ h => h) hHeld ?_
        refine take_n 40 ⟨some 93, Op.load 3 (Operand.tmp 92), _, _, _, some (33, true)⟩ rfl (fun _ _ _ h => h) hHeld ?_
        refine take_n 41 ⟨some 94, Op.binOp BinOp.gtr 3 (Operand.tmp 91) (Operand.tmp 93) 3, _, _, _, some (33, true)⟩ rfl (fun _ _ _ h => h) hHeld ?_
        refine take_n 42 ⟨some 95, Op.pick (Operand.tmp 86) (Operand.tmp 94) (Operand.const (Value.bool false)), _, _, _, some (28, false)⟩ rfl (fun _ _ _ h => h) hHeld ?_
        refine take_v (v := ?_) 43 ⟨some 96, Op.pick (Operand.tmp 81) (Operand.const (Value.bool true)) (Operand.tmp 95), _, _, _, none⟩ rfl (fun _ _ _ h => h) ?_ hHeld ?_
        rotate_left
        · (intro W _; go_simp <;> (try with_reducible rfl))
        refine wpAnyH_done (by kernel_rfl) ?_ _
        refine NoPanic.normal ?_
        clear hHeld
        go_wp2
        go_ret
        exact ⟨good_no HN.out, HB2.out⟩
      have e1b : decide (c < 0) = false := decide_eq_false e1
      cases e2 : inR c (nw - sk) (nw + sk)
      · have HN : Hid (¬ goodL sk nw cl ho un kn) := Hid.intro (HXc.out c x HE.out.1 HE.out.2 (fun q => by rw [inR_iff.2 (nearB_iff.1 q.1).2] at e2; cases e2))
        have HC1 : Hid (inR c (nw - sk) (nw + sk) = false) := e2
        clear e2
        refine wp_region_noPanic ?_
        refine wp_region_held_drew (S := fun W => Bx W w.heap.size [.int .i64 sk, .int .i64 nw, .slice (some ⟨b1, o1, none⟩) m k1, .int .i64 ho, .int .i64 un, .slice (some ⟨b2, o2, none⟩) m k2] ∧ W.cell? ⟨b1, o1 + k, none⟩ = some (.int .i64 c) ∧ W.cell? ⟨b2, o2 + k, none⟩ = some (.int .i64 x) ∧ (b1 < W.heap.size ∧ b2 < W.heap.size)) (by kernel_rfl) HS0.out (fun hHeld => ?_)
        refine take_v (v := ?_) 0 ⟨some 53, Op.move (Operand.tmp 5), _, _, _, none⟩ rfl (fun _ _ _ h => h) ?_ hHeld ?_
        rotate_left
        · (intro W _; go_simp <;> (try with_reducible rfl))
        refine take_v (v := ?_) 1 ⟨some 54, Op.binOp BinOp.lss 3 (Operand.tmp 53) (Operand.const (Value.int IntKind.i64 0)) 3, _, _, _, none⟩ rfl (fun _ _ _ h => h) ?_ hHeld ?_
        rotate_left
        · (intro W _; go_simp <;> (try with_reducible rfl))
        refine take_v (v := ?_) 2 ⟨some 55, Op.move (Operand.tmp 54), _, _, _, none⟩ rfl (fun _ _ _ h => h) ?_ hHeld ?_
        rotate_left
        · (intro W _; go_simp <;> (try with_reducible rfl))
        refine take_v (v := ?_) 3 ⟨some 56, Op.move (Operand.tmp 5), _, _, _, some (2, false)⟩ rfl (fun _ _ _ h => h) ?_ hHeld ?_
        rotate_left
        · (intro W _; go_simp <;> (try with_reducible rfl))
        refine take_v (v := ?_) 4 ⟨some 57, Op.fieldAddr 28 (Operand.tmp 1) 1, _, _, _, some (2, false)⟩ rfl (fun _ _ _ h => h) ?_ hHeld ?_
        rotate_left
        · (intro W _; go_simp <;> (try with_reducible rfl))
        refine take_v (v := ?_) 5 ⟨some 58, Op.load 3 (Operand.tmp 57), _, _, _, some (2, false)⟩ rfl (fun _ _ _ h => h) ?_ hHeld ?_
        rotate_left
        · (intro W hSW; (have s0 := hSW.1.cell 0 rfl; have s1 := hSW.1.cell 1 rfl; have s2 := hSW.1.cell 2 rfl; have s3 := hSW.1.cell 3 rfl; have s4 := hSW.1.cell 4 rfl; have s5 := hSW.1.cell 5 rfl; have sz := hSW.1.2; have sc := hSW.2.1; have sk9 := hSW.2.2.1; have z1 := hSW.2.2.2.1; have z2 := hSW.2.2.2.2); go_simp <;> (try with_reducible rfl))
        refine take_v (v := ?_) 6 ⟨some 59, Op.fieldAddr 28 (Operand.tmp 1) 0, _, _, _, some (2, false)⟩ rfl (fun _ _ _ h => h) ?_ hHeld ?_
        rotate_left
        · (intro W _; go_simp <;> (try with_reducible rfl))
        refine take_v (v := ?_) 7 ⟨some 60, Op.load 3 (Operand.tmp 59), _, _, _, some (2, false)⟩ rfl (fun _ _ _ h => h) ?_ hHeld ?_
        rotate_left
        · (intro W hSW; (have s0 := hSW.1.cell 0 rfl; have s1 := hSW.1.cell 1 rfl; have s2 := hSW.1.cell 2 rfl; have s3 := hSW.1.cell 3 rfl; have s4 := hSW.1.cell 4 rfl; have s5 := hSW.1.cell 5 rfl; have sz := hSW.1.2; have sc := hSW.2.1; have sk9 := hSW.2.2.1; have z1 := hSW.2.2.2.1; have z2 := hSW.2.2.2.2); go_simp <;> (try with_reducible rfl))
        refine take_v (v := ?_) 8 ⟨some 61, Op.binOp BinOp.sub 3 (Operand.tmp 58) (Operand.tmp 60) 3, _, _, _, some (2, false)⟩ rfl (fun _ _ _ h => h) ?_ hHeld ?_
        rotate_left
        · (intro W _; go_simp <;> (try with_reducible rfl))
        refine take_v (v := ?_) 9 ⟨some 62, Op.fieldAddr 28 (Operand.tmp 1) 1, _, _, _, some (2, false)⟩ rfl (fun _ _ _ h => h) ?_ hHeld ?_
        rotate_left
        · (intro W _; go_simp <;> (try with_reducible rfl))
        refine take_v (v := ?_) 10 ⟨some 63, Op.load 3 (Operand.tmp 62), _, _, _, some (2, false)⟩ rfl (fun _ _ _ h => h) ?_ hHeld ?_
        rotate_left
        · (intro W hSW; (have s0 := hSW.1.cell 0 rfl; have s1 := hSW.1.cell 1 rfl; have s2 := hSW.1.cell 2 rfl; have s3 := hSW.1.cell 3 rfl; have s4 := hSW.1.cell 4 rfl; have s5 := hSW.1.cell 5 rfl; have sz := hSW.1.2; have sc := hSW.2.1; have sk9 := hSW.2.2.1; have z1 := hSW.2.2.2.1; have z2 := hSW.2.2.2.2); go_simp <;> (try with_reducible rfl))
        refine take_v (v := ?_) 11 ⟨some 64, Op.fieldAddr 28 (Operand.tmp 1) 0, _, _, _, some (2, false)⟩ rfl (fun _ _ _ h => h) ?_ hHeld ?_
        rotate_left
        · (intro W _; go_simp <;> (try with_reducible rfl))
        refine take_v (v := ?_) 12 ⟨some 65, Op.load 3 (Operand.tmp 64), _, _, _, some (2, false)⟩ rfl (fun _ _ _ h => h) ?_ hHeld ?_
        rotate_left
        · (intro W hSW; (have s0 := hSW.1.cell 0 rfl; have s1 := hSW.1.cell 1 rfl; have s2 := hSW.1.cell 2 rfl; have s3 := hSW.1.cell 3 rfl; have s4 := hSW.1.cell 4 rfl; have s5 := hSW.1.cell 5 rfl; have sz := hSW.1.2; have sc := hSW.2.1; have sk9 := hSW.2.2.1; have z1 := hSW.2.2.2.1; have z2 := hSW.2.2.2.2); go_simp <;> (try with_reducible rfl))
        refine take_v (v := ?_) 13 ⟨some 66, Op.binOp BinOp.add 3 (Operand.tmp 63) (Operand.tmp 65) 3, _, _, _, some (2, false)⟩ rfl (fun _ _ _ h => h) ?_ hHeld ?_
        rotate_left
        · (intro W _; go_simp <;> (try with_reducible rfl))
        refine ready_call 14 ⟨some 67, Op.call { callee := Callee.value (Operand.func 55), args := #[Operand.tmp 56, Operand.tmp 61, Operand.tmp 66], argTypes := #[3, 3, 3] }, _, _, _, some (2, false)⟩ (by kernel_rfl) rfl (by kernel_rfl) (fun KC hK => ?_)
        go_wp2_with fail
        refine (show Calls _ _ _ _ (fun r w' => r = .returned (.bool false) ∧ w' = _) from HC1.out ▸ l1In_any _ _ _ _).mono ?_
        rintro r w' ⟨rfl, hw'⟩
        have hw' := hw'.symm
        subst hw'
        refine hK.out _ _ HS0.out (fun hHeld => ?_)
        clear hK KC
        refine take_v (v := ?_) 15 ⟨some 68, Op.unOp UnOp.not 4 (Operand.tmp 67), _, _, _, some (2, false)⟩ rfl (fun _ _ _ h => h) ?_ hHeld ?_
        rotate_left
        · (intro W _; go_simp <;> (try with_reducible rfl))
        refine take_v (v := ?_) 16 ⟨some 69, Op.pick (Operand.tmp 55) (Operand.const (Value.bool true)) (Operand.tmp 68), _, _, _, none⟩ rfl (fun _ _ _ h => h) ?_ hHeld ?_
        rotate_left
        · (intro W _; go_simp <;> (try with_reducible rfl))
        refine take_v (v := ?_) 17 ⟨some 70, Op.move (Operand.tmp 69), _, _, _, none⟩ rfl (fun _ _ _ h => h) ?_ hHeld ?_
        rotate_left
        · (intro W _; go_simp <;> (try with_reducible rfl))
        refine take_n 18 ⟨some 71, Op.fieldAddr 28 (Operand.tmp 1) 5, _, _, _, some (17, false)⟩ rfl (fun _ _ _ h => h) hHeld ?_
        refine take_n 19 ⟨some 72, Op.load 26 (Operand.tmp 71), _, _, _, some (17, false)⟩ rfl (fun _ _ _ h => h) hHeld ?_
        refine take_n 20 ⟨some 73, Op.move (Operand.tmp 4), _, _, _, some (17, false)⟩ rfl (fun _ _ _ h => h) hHeld ?_
        refine take_n 21 ⟨some 74, Op.indexAddr 26 (Operand.tmp 72) (Operand.tmp 73), _, _, _, some (17, false)⟩ rfl (fun _ _ _ h => h) hHeld ?_
        refine take_n 22 ⟨some 75, Op.load 3 (Operand.tmp 74), _, _, _, some (17, false)⟩ rfl (fun _ _ _ h => h) hHeld ?_
        refine take_n 23 ⟨some 76, Op.fieldAddr 28 (Operand.tmp 1) 4, _, _, _, some (17, false)⟩ rfl (fun _ _ _ h => h) hHeld ?_
        refine take_n 24 ⟨some 77, Op.load 3 (Operand.tmp 76), _, _, _, some (17, false)⟩ rfl (fun _ _ _ h => h) hHeld ?_
        refine take_n 25 ⟨some 78, Op.call { callee := Callee.value (Operand.func 55), args := #[Operand.tmp 75, Operand.const (Value.int IntKind.i64 0), Operand.tmp 77], argTypes := #[3, 3, 3] }, _, _, _, some (17, false)⟩ rfl (fun _ _ _ h => h) hHeld ?_
        refine take_n 26 ⟨some 79, Op.unOp UnOp.not 4 (Operand.tmp 78), _, _, _, some (17, false)⟩ rfl (fun _ _ _ h => h) hHeld ?_
        refine take_v (v := ?_) 27 ⟨some 80, Op.pick (Operand.tmp 70) (Operand.const (Value.bool true)) (Operand.tmp 79), _, _, _, none⟩ rfl (fun _ _ _ h => h) ?_ hHeld ?_
        rotate_left
        · (intro W _; go_simp <;> (try with_reducible rfl))
        refine take_v (v := ?_) 28 ⟨some 81, Op.move (Operand.tmp 80), _, _, _, none⟩ rfl (fun _ _ _ h => h) ?_ hHeld ?_
        rotate_left
        · (intro W _; go_simp <;> (try with_reducible rfl))
        refine take_n 29 ⟨some 82, Op.move (Operand.tmp 4), _, _, _, some (28, false)⟩ rfl (fun _ _ _ h => h) hHeld ?_
        refine take_n 30 ⟨some 83, Op.fieldAddr 28 (Operand.tmp 1) 3, _, _, _, some (28, false)⟩ rfl (fun _ _ _ h => h) hHeld ?_
        refine take_n 31 ⟨some 84, Op.load 3 (Operand.tmp 83), _, _, _, some (28, false)⟩ rfl (fun _ _ _ h => h) hHeld ?_
        refine take_n 32 ⟨some 85, Op.binOp BinOp.neq 3 (Operand.tmp 82) (Operand.tmp 84) 3, _, _, _, some (28, false)⟩ rfl (fun _ _ _ h => h) hHeld ?_
        refine take_n 33 ⟨some 86, Op.move (Operand.tmp 85), _, _, _, some (28, false)⟩ rfl (fun _ _ _ h => h) hHeld ?_
        refine take_n 34 ⟨some 87, Op.fieldAddr 28 (Operand.tmp 1) 5, _, _, _, some (33, true)⟩ rfl (fun _ _ _ h => h) hHeld ?_
        refine take_n 35 ⟨some 88, Op.load 26 (Operand.tmp 87), _, _, _, some (33, true)⟩ rfl (fun _ _ _ h => h) hHeld ?_
        refine take_n 36 ⟨some 89, Op.move (Operand.tmp 4), _, _, _, some (33, true)⟩ rfl (fun _ _ _ h => h) hHeld ?_
        refine take_n 37 ⟨some 90, Op.indexAddr 26 (Operand.tmp 88) (Operand.tmp 89), _, _, _, some (33, true)⟩ rfl (fun _ _ _ h => h) hHeld ?_
        refine take_n 38 ⟨some 91, Op.load 3 (Operand.tmp 90), _, _, _, some (33, true)⟩ rfl (fun _ _ _ h => h) hHeld ?_
        refine take_n 39 ⟨some 92, Op.fieldAddr 28 (Operand.tmp 1) 1, _, _, _, some (33, true)⟩ rfl (fun _ _ _ h => h) hHeld ?_
        refine take_n 40 ⟨some 93, Op.load 3 (Operand.tmp 92), _, _, _, some (33, true)⟩ rfl (fun _ _ _ h => h) hHeld ?_
        refine take_n 41 ⟨some 94, Op.binOp BinOp.gtr 3 (Operand.tmp 91) (Operand.tmp 93) 3, _, _, _, some (33, true)⟩ rfl (fun _ _ _ h => h) hHeld ?_
        refine take_n 42 ⟨some 95, Op.pick (Operand.tmp 86) (Operand.tmp 94) (Operand.const (Value.bool false)), _, _, _, some (28, false)⟩ rfl (fun _ _ _ h => h) hHeld ?_
        refine take_v (v := ?_) 43 ⟨some 96, Op.pick (Operand.tmp 81) (Operand.const (Value.bool true)) (Operand.tmp 95), _, _, _, none⟩ rfl (fun _ _ _ h => h) ?_ hHeld ?_
        rotate_left
        · (intro W _; go_simp <;> (try with_reducible rfl))
        refine wpAnyH_done (by kernel_rfl) ?_ _
        refine NoPanic.normal ?_
        clear hHeld
        go_wp2
        go_ret
        exact ⟨good_no HN.out, HB2.out⟩
      have HC1 : Hid (inR c (nw - sk) (nw + sk) = true) := e2
      have HNE : Hid (nearB sk nw c = true) := Hid.intro (nearB_iff.2 ⟨by omega, inR_iff.1 e2⟩)
      clear e2
      cases e3 : inR x 0 un
      · have HN : Hid (¬ goodL sk nw cl ho un kn) := Hid.intro (HXc.out c x HE.out.1 HE.out.2 (fun q => by rw [inR_iff.2 ⟨q.2.1, q.2.2.1⟩] at e3; cases e3))
        have HC2 : Hid (inR x 0 un = false) := e3
        clear e3
        refine wp_region_noPanic ?_
        refine wp_region_held_drew (S := fun W => Bx W w.heap.size [.int .i64 sk, .int .i64 nw, .slice (some ⟨b1, o1, none⟩) m k1, .int .i64 ho, .int .i64 un, .slice (some ⟨b2, o2, none⟩) m k2] ∧ W.cell? ⟨b1, o1 + k, none⟩ = some (.int .i64 c) ∧ W.cell? ⟨b2, o2 + k, none⟩ = some (.int .i64 x) ∧ (b1 < W.heap.size ∧ b2 < W.heap.size)) (by kernel_rfl) HS0.out (fun hHeld => ?_)
        refine take_v (v := ?_) 0 ⟨some 53, Op.move (Operand.tmp 5), _, _, _, none⟩ rfl (fun _ _ _ h => h) ?_ hHeld ?_
        rotate_left
        · (intro W _; go_simp <;> (try with_reducible rfl))
        refine take_v (v := ?_) 1 ⟨some 54, Op.binOp BinOp.lss 3 (Operand.tmp 53) (Operand.const (Value.int IntKind.i64 0)) 3, _, _, _, none⟩ rfl (fun _ _ _ h => h) ?_ hHeld ?_
        rotate_left
        · (intro W _; go_simp <;> (try with_reducible rfl))
        refine take_v (v := ?_) 2 ⟨some 55, Op.move (Operand.tmp 54), _, _, _, none⟩ rfl (fun _ _ _ h => h) ?_ hHeld ?_
        rotate_left
        · (intro W _; go_simp <;> (try with_reducible rfl))
        refine take_v (v := ?_) 3 ⟨some 56, Op.move (Operand.tmp 5), _, _, _, some (2, false)⟩ rfl (fun _ _ _ h => h) ?_ hHeld ?_
        rotate_left
        · (intro W _; go_simp <;> (try with_reducible rfl))
        refine take_v (v := ?_) 4 ⟨some 57, Op.fieldAddr 28 (Operand.tmp 1) 1, _, _, _, some (2, false)⟩ rfl (fun _ _ _ h => h) ?_ hHeld ?_
        rotate_left
        · (intro W _; go_simp <;> (try with_reducible rfl))
        refine take_v (v := ?_) 5 ⟨some 58, Op.load 3 (Operand.tmp 57), _, _, _, some (2, false)⟩ rfl (fun _ _ _ h => h) ?_ hHeld ?_
        rotate_left
        · (intro W hSW; (have s0 := hSW.1.cell 0 rfl; have s1 := hSW.1.cell 1 rfl; have s2 := hSW.1.cell 2 rfl; have s3 := hSW.1.cell 3 rfl; have s4 := hSW.1.cell 4 rfl; have s5 := hSW.1.cell 5 rfl; have sz := hSW.1.2; have sc := hSW.2.1; have sk9 := hSW.2.2.1; have z1 := hSW.2.2.2.1; have z2 := hSW.2.2.2.2); go_simp <;> (try with_reducible rfl))
        refine take_v (v := ?_) 6 ⟨some 59, Op.fieldAddr 28 (Operand.tmp 1) 0, _, _, _, some (2, false)⟩ rfl (fun _ _ _ h => h) ?_ hHeld ?_
        rotate_left
        · (intro W _; go_simp <;> (try with_reducible rfl))
        refine take_v (v := ?_) 7 ⟨some 60, Op.load 3 (Operand.tmp 59), _, _, _, some (2, false)⟩ rfl (fun _ _ _ h => h) ?_ hHeld ?_
        rotate_left
        · (intro W hSW; (have s0 := hSW.1.cell 0 rfl; have s1 := hSW.1.cell 1 rfl; have s2 := hSW.1.cell 2 rfl; have s3 := hSW.1.cell 3 rfl; have s4 := hSW.1.cell 4 rfl; have s5 := hSW.1.cell 5 rfl; have sz := hSW.1.2; have sc := hSW.2.1; have sk9 := hSW.2.2.1; have z1 := hSW.2.2.2.1; have z2 := hSW.2.2.2.2); go_simp <;> (try with_reducible rfl))
        refine take_v (v := ?_) 8 ⟨some 61, Op.binOp BinOp.sub 3 (Operand.tmp 58) (Operand.tmp 60) 3, _, _, _, some (2, false)⟩ rfl (fun _ _ _ h => h) ?_ hHeld ?_
        rotate_left
        · (intro W _; go_simp <;> (try with_reducible rfl))
        refine take_v (v := ?_) 9 ⟨some 62, Op.fieldAddr 28 (Operand.tmp 1) 1, _, _, _, some (2, false)⟩ rfl (fun _ _ _ h => h) ?_ hHeld ?_
        rotate_left
        · (intro W _; go_simp <;> (try with_reducible rfl))
        refine take_v (v := ?_) 10 ⟨some 63, Op.load 3 (Operand.tmp 62), _, _, _, some (2, false)⟩ rfl (fun _ _ _ h => h) ?_ hHeld ?_
        rotate_left
        · (intro W hSW; (have s0 := hSW.1.cell 0 rfl; have s1 := hSW.1.cell 1 rfl; have s2 := hSW.1.cell 2 rfl; have s3 := hSW.1.cell 3 rfl; have s4 := hSW.1.cell 4 rfl; have s5 := hSW.1.cell 5 rfl; have sz := hSW.1.2; have sc := hSW.2.1; have sk9 := hSW.2.2.1; have z1 := hSW.2.2.2.1; have z2 := hSW.2.2.2.2); go_simp <;> (try with_reducible rfl))
        refine take_v (v := ?_) 11 ⟨some 64, Op.fieldAddr 28 (Operand.tmp 1) 0, _, _, _, some (2, false)⟩ rfl (fun _ _ _ h => h) ?_ hHeld ?_
        rotate_left
        · (intro W _; go_simp <;> (try with_reducible rfl))
        refine take_v (v := ?_) 12 ⟨some 65, Op.load 3 (Operand.tmp 64), _, _, _, some (2, false)⟩ rfl (fun _ _ _ h => h) ?_ hHeld ?_
        rotate_left
        · (intro W hSW; (have s0 := hSW.1.cell 0 rfl; have s1 := hSW.1.cell 1 rfl; have s2 := hSW.1.cell 2 rfl; have s3 := hSW.1.cell 3 rfl; have s4 := hSW.1.cell 4 rfl; have s5 := hSW.1.cell 5 rfl; have sz := hSW.1.2; have sc := hSW.2.1; have sk9 := hSW.2.2.1; have z1 := hSW.2.2.2.1; have z2 := hSW.2.2.2.2); go_simp <;> (try with_reducible rfl))
        refine take_v (v := ?_) 13 ⟨some 66, Op.binOp BinOp.add 3 (Operand.tmp 63) (Operand.tmp 65) 3, _, _, _, some (2, false)⟩ rfl (fun _ _ _ h => h) ?_ hHeld ?_
        rotate_left
        · (intro W _; go_simp <;> (try with_reducible rfl))
        refine ready_call 14 ⟨some 67, Op.call { callee := Callee.value (Operand.func 55), args := #[Operand.tmp 56, Operand.tmp 61, Operand.tmp 66], argTypes := #[3, 3, 3] }, _, _, _, some (2, false)⟩ (by kernel_rfl) rfl (by kernel_rfl) (fun KC hK => ?_)
        go_wp2_with fail
        refine (show Calls _ _ _ _ (fun r w' => r = .returned (.bool true) ∧ w' = _) from HC1.out ▸ l1In_any _ _ _ _).mono ?_
        rintro r w' ⟨rfl, hw'⟩
        have hw' := hw'.symm
        subst hw'
        refine hK.out _ _ HS0.out (fun hHeld => ?_)
        clear hK KC
        refine take_v (v := ?_) 15 ⟨some 68, Op.unOp UnOp.not 4 (Operand.tmp 67), _, _, _, some (2, false)⟩ rfl (fun _ _ _ h => h) ?_ hHeld ?_
        rotate_left
        · (intro W _; go_simp <;> (try with_reducible rfl))
        refine take_v (v := ?_) 16 ⟨some 69, Op.pick (Operand.tmp 55) (Operand.const (Value.bool true)) (Operand.tmp 68), _, _, _, none⟩ rfl (fun _ _ _ h => h) ?_ hHeld ?_
        rotate_left
        · (intro W _; go_simp <;> (try with_reducible rfl))
        refine take_v (v := ?_) 17 ⟨some 70, Op.move (Operand.tmp 69), _, _, _, none⟩ rfl (fun _ _ _ h => h) ?_ hHeld ?_
        rotate_left
        · (intro W _; go_simp <;> (try with_reducible rfl))
        refine take_v (v := ?_) 18 ⟨some 71, Op.fieldAddr 28 (Operand.tmp 1) 5, _, _, _, some (17, false)⟩ rfl (fun _ _ _ h => h) ?_ hHeld ?_
        rotate_left
        · (intro W _; go_simp <;> (try with_reducible rfl))
        refine take_v (v := ?_) 19 ⟨some 72, Op.load 26 (Operand.tmp 71), _, _, _, some (17, false)⟩ rfl (fun _ _ _ h => h) ?_ hHeld ?_
        rotate_left
        · (intro W hSW; (have s0 := hSW.1.cell 0 rfl; have s1 := hSW.1.cell 1 rfl; have s2 := hSW.1.cell 2 rfl; have s3 := hSW.1.cell 3 rfl; have s4 := hSW.1.cell 4 rfl; have s5 := hSW.1.cell 5 rfl; have sz := hSW.1.2; have sc := hSW.2.1; have sk9 := hSW.2.2.1; have z1 := hSW.2.2.2.1; have z2 := hSW.2.2.2.2); go_simp <;> (try with_reducible rfl))
        refine take_v (v := ?_) 20 ⟨some 73, Op.move (Operand.tmp 4), _, _, _, some (17, false)⟩ rfl (fun _ _ _ h => h) ?_ hHeld ?_
        rotate_left
        · (intro W _; go_simp <;> (try with_reducible rfl))
        refine take_v (v := ?_) 21 ⟨some 74, Op.indexAddr 26 (Operand.tmp 72) (Operand.tmp 73), _, _, _, some (17, false)⟩ rfl (fun _ _ _ h => h) ?_ hHeld ?_
        rotate_left
        · (intro W _; go_simp <;> (try with_reducible rfl))
        refine take_v (v := ?_) 22 ⟨some 75, Op.load 3 (Operand.tmp 74), _, _, _, some (17, false)⟩ rfl (fun _ _ _ h => h) ?_ hHeld ?_
        rotate_left
        · (intro W hSW; (have s0 := hSW.1.cell 0 rfl; have s1 := hSW.1.cell 1 rfl; have s2 := hSW.1.cell 2 rfl; have s3 := hSW.1.cell 3 rfl; have s4 := hSW.1.cell 4 rfl; have s5 := hSW.1.cell 5 rfl; have sz := hSW.1.2; have sc := hSW.2.1; have sk9 := hSW.2.2.1; have z1 := hSW.2.2.2.1; have z2 := hSW.2.2.2.2); go_simp <;> (try with_reducible rfl))
        refine take_v (v := ?_) 23 ⟨some 76, Op.fieldAddr 28 (Operand.tmp 1) 4, _, _, _, some (17, false)⟩ rfl (fun _ _ _ h => h) ?_ hHeld ?_
        rotate_left
        · (intro W _; go_simp <;> (try with_reducible rfl))
        refine take_v (v := ?_) 24 ⟨some 77, Op.load 3 (Operand.tmp 76), _, _, _, some (17, false)⟩ rfl (fun _ _ _ h => h) ?_ hHeld ?_
        rotate_left
        · (intro W hSW; (have s0 := hSW.1.cell 0 rfl; have s1 := hSW.1.cell 1 rfl; have s2 := hSW.1.cell 2 rfl; have s3 := hSW.1.cell 3 rfl; have s4 := hSW.1.cell 4 rfl; have s5 := hSW.1.cell 5 rfl; have sz := hSW.1.2; have sc := hSW.2.1; have sk9 := hSW.2.2.1; have z1 := hSW.2.2.2.1; have z2 := hSW.2.2.2.2); go_simp <;> (try with_reducible rfl))
        refine ready_call 25 ⟨some 78, Op.call { callee := Callee.value (Operand.func 55), args := #[Operand.tmp 75, Operand.const (Value.int IntKind.i64 0), Operand.tmp 77], argTypes := #[3, 3, 3] }, _, _, _, some (17, false)⟩ (by kernel_rfl) rfl (by kernel_rfl) (fun KC hK => ?_)
        go_wp2_with fail
        refine (show Calls _ _ _ _ (fun r w' => r = .returned (.bool false) ∧ w' = _) from HC2.out ▸ l1In_any _ _ _ _).mono ?_
        rintro r w' ⟨rfl, hw'⟩
        have hw' := hw'.symm
        subst hw'
        refine hK.out _ _ HS0.out (fun hHeld => ?_)
        clear hK KC
        refine take_v (v := ?_) 26 ⟨some 79, Op.unOp UnOp.not 4 (Operand.tmp 78), _, _, _, some (17, false)⟩ rfl (fun _ _ _ h => h) ?_ hHeld ?_
        rotate_left
        · (intro W _; go_simp <;> (try with_reducible rfl))
        refine take_v (v := ?_) 27 ⟨some 80, Op.pick (Operand.tmp 70) (Operand.const (Value.bool true)) (Operand.tmp 79), _, _, _, none⟩ rfl (fun _ _ _ h => h) ?_ hHeld ?_
        rotate_left
        · (intro W _; go_simp <;> (try with_reducible rfl))
        refine take_v (v := ?_) 28 ⟨some 81, Op.move (Operand.tmp 80), _, _, _, none⟩ rfl (fun _ _ _ h => h) ?_ hHeld ?_
        rotate_left
        · (intro W _; go_simp <;> (try with_reducible rfl))
        refine take_n 29 ⟨some 82, Op.move (Operand.tmp 4), _, _, _, some (28, false)⟩ rfl (fun _ _ _ h => h) hHeld ?_
        refine take_n 30 ⟨some 83, Op.fieldAddr 28 (Operand.tmp 1) 3, _, _, _, some (28, false)⟩ rfl (fun _ _ _ h => h) hHeld ?_
        refine take_n 31 ⟨some 84, Op.load 3 (Operand.tmp 83), _, _, _, some (28, false)⟩ rfl (fun _ _ _ h => h) hHeld ?_
        refine take_n 32 ⟨some 85, Op.binOp BinOp.neq 3 (Operand.tmp 82) (Operand.tmp 84) 3, _, _, _, some (28, false)⟩ rfl (fun _ _ _ h => h) hHeld ?_
        refine take_n 33 ⟨some 86, Op.move (Operand.tmp 85), _, _, _, some (28, false)⟩ rfl (fun _ _ _ h => h) hHeld ?_
        refine take_n 34 ⟨some 87, Op.fieldAddr 28 (Operand.tmp 1) 5, _, _, _, some (33, true)⟩ rfl (fun _ _ _ h => h) hHeld ?_
        refine take_n 35 ⟨some 88, Op.load 26 (Operand.tmp 87), _, _, _, some (33, true)⟩ rfl (fun _ _ _ h => h) hHeld ?_
        refine take_n 36 ⟨some 89, Op.move (Operand.tmp 4), _, _, _, some (33, true)⟩ rfl (fun _ _ _ h => h) hHeld ?_
        refine take_n 37 ⟨some 90, Op.indexAddr 26 (Operand.tmp 88) (Operand.tmp 89), _, _, _, some (33, true)⟩ rfl (fun _ _ _ h => h) hHeld ?_
        refine take_n 38 ⟨some 91, Op.load 3 (Operand.tmp 90), _, _, _, some (33, true)⟩ rfl (fun _ _ _ h => h) hHeld ?_
        refine take_n 39 ⟨some 92, Op.fieldAddr 28 (Operand.tmp 1) 1, _, _, _, some (33, true)⟩ rfl (fun _ _ _ h => h) hHeld ?_
        refine take_n 40 ⟨some 93, Op.load 3 (Operand.tmp 92), _, _, _, some (33, true)⟩ rfl (fun _ _ _ h => h) hHeld ?_
        refine take_n 41 ⟨some 94, Op.binOp BinOp.gtr 3 (Operand.tmp 91) (Operand.tmp 93) 3, _, _, _, some (33, true)⟩ rfl (fun _ _ _ h => h) hHeld ?_
        refine take_n 42 ⟨some 95, Op.pick (Operand.tmp 86) (Operand.tmp 94) (Operand.const (Value.bool false)), _, _, _, some (28, false)⟩ rfl (fun _ _ _ h => h) hHeld ?_
        refine take_v (v := ?_) 43 ⟨some 96, Op.pick (Operand.tmp 81) (Operand.const (Value.bool true)) (Operand.tmp 95), _, _, _, none⟩ rfl (fun _ _ _ h => h) ?_ hHeld ?_
        rotate_left
        · (intro W _; go_simp <;> (try with_reducible rfl))
        refine wpAnyH_done (by kernel_rfl) ?_ _
        refine NoPanic.normal ?_
        clear hHeld
        go_wp2
        go_ret
        exact ⟨good_no HN.out, HB2.out⟩
      have HC2 : Hid (inR x 0 un = true) := e3
      have HK : Hid (0 ≤ x ∧ x ≤ un) := inR_iff.1 e3
      clear e3
      by_cases e4 : (k : Int) = ho
      · have e4b : ((k : Int) != ho) = false := by simp [e4]
        have HN : Hid (nodeP sk nw ho un k (atI cl k) (atI kn k)) := Hid.intro (by rw [HE.out.1, HE.out.2]; exact ⟨HNE.out, HK.out.1, HK.out.2, fun q => absurd e4 q⟩)
        clear e4
        refine wp_region_noPanic ?_
        refine wp_region_held_drew (S := fun W => Bx W w.heap.size [.int .i64 sk, .int .i64 nw, .slice (some ⟨b1, o1, none⟩) m k1, .int .i64 ho, .int .i64 un, .slice (some ⟨b2, o2, none⟩) m k2] ∧ W.cell? ⟨b1, o1 + k, none⟩ = some (.int .i64 c) ∧ W.cell? ⟨b2, o2 + k, none⟩ = some (.int .i64 x) ∧ (b1 < W.heap.size ∧ b2 < W.heap.size)) (by kernel_rfl) HS0.out (fun hHeld => ?_)
        refine take_v (v := ?_) 0 ⟨some 53, Op.move (Operand.tmp 5), _, _, _, none⟩ rfl (fun _ _ _ h => h) ?_ hHeld ?_
        rotate_left
        · (intro W _; go_simp <;> (try with_reducible rfl))
        refine take_v (v := ?_) 1 ⟨some 54, Op.binOp BinOp.lss 3 (Operand.tmp 53) (Operand.const (Value.int IntKind.i64 0)) 3, _, _, _, none⟩ rfl (fun _ _ _ h => h) ?_ hHeld ?_
        rotate_left
        · (intro W _; go_simp <;> (try with_reducible rfl))
        refine take_v (v := ?_) 2 ⟨some 55, Op.move (Operand.tmp 54), _, _, _, none⟩ rfl (fun _ _ _ h => h) ?_ hHeld ?_
        rotate_left
        · (intro W _; go_simp <;> (try with_reducible rfl))
        refine take_v (v := ?_) 3 ⟨some 56, Op.move (Operand.tmp 5), _, _, _, some (2, false)⟩ rfl (fun _ _ _ h => h) ?_ hHeld ?_
        rotate_left
        · (intro W _; go_simp <;> (try with_reducible rfl))
        refine take_v (v := ?_) 4 ⟨some 57, Op.fieldAddr 28 (Operand.tmp 1) 1, _, _, _, some (2, false)⟩ rfl (fun _ _ _ h => h) ?_ hHeld ?_
        rotate_left
        · (intro W _; go_simp <;> (try with_reducible rfl))
        refine take_v (v := ?_) 5 ⟨some 58, Op.load 3 (Operand.tmp 57), _, _, _, some (2, false)⟩ rfl (fun _ _ _ h => h) ?_ hHeld ?_
        rotate_left
        · (intro W hSW; (have s0 := hSW.1.cell 0 rfl; have s1 := hSW.1.cell 1 rfl; have s2 := hSW.1.cell 2 rfl; have s3 := hSW.1.cell 3 rfl; have s4 := hSW.1.cell 4 rfl; have s5 := hSW.1.cell 5 rfl; have sz := hSW.1.2; have sc := hSW.2.1; have sk9 := hSW.2.2.1; have z1 := hSW.2.2.2.1; have z2 := hSW.2.2.2.2); go_simp <;> (try with_reducible rfl))
        refine take_v (v := ?_) 6 ⟨some 59, Op.fieldAddr 28 (Operand.tmp 1) 0, _, _, _, some (2, false)⟩ rfl (fun _ _ _ h => h) ?_ hHeld ?_
        rotate_left
        · (intro W _; go_simp <;> (try with_reducible rfl))
        refine take_v (v := ?_) 7 ⟨some 60, Op.load 3 (Operand.tmp 59), _, _, _, some (2, false)⟩ rfl (fun _ _ _ h => h) ?_ hHeld ?_
        rotate_left
        · (intro W hSW; (have s0 := hSW.1.cell 0 rfl; have s1 := hSW.1.cell 1 rfl; have s2 := hSW.1.cell 2 rfl; have s3 := hSW.1.cell 3 rfl; have s4 := hSW.1.cell 4 rfl; have s5 := hSW.1.cell 5 rfl; have sz := hSW.1.2; have sc := hSW.2.1; have sk9 := hSW.2.2.1; have z1 := hSW.2.2.2.1; have z2 := hSW.2.2.2.2); go_simp <;> (try with_reducible rfl))
        refine take_v (v := ?_) 8 ⟨some 61, Op.binOp BinOp.sub 3 (Operand.tmp 58) (Operand.tmp 60) 3, _, _, _, some (2, false)⟩ rfl (fun _ _ _ h => h) ?_ hHeld ?_
        rotate_left
        · (intro W _; go_simp <;> (try with_reducible rfl))
        refine take_v (v := ?_) 9 ⟨some 62, Op.fieldAddr 28 (Operand.tmp 1) 1, _, _, _, some (2, false)⟩ rfl (fun _ _ _ h => h) ?_ hHeld ?_
        rotate_left
        · (intro W _; go_simp <;> (try with_reducible rfl))
        refine take_v (v := ?_) 10 ⟨some 63, Op.load 3 (Operand.tmp 62), _, _, _, some (2, false)⟩ rfl (fun _ _ _ h => h) ?_ hHeld ?_
        rotate_left
        · (intro W hSW; (have s0 := hSW.1.cell 0 rfl; have s1 := hSW.1.cell 1 rfl; have s2 := hSW.1.cell 2 rfl; have s3 := hSW.1.cell 3 rfl; have s4 := hSW.1.cell 4 rfl; have s5 := hSW.1.cell 5 rfl; have sz := hSW.1.2; have sc := hSW.2.1; have sk9 := hSW.2.2.1; have z1 := hSW.2.2.2.1; have z2 := hSW.2.2.2.2); go_simp <;> (try with_reducible rfl))
        refine take_v (v := ?_) 11 ⟨some 64, Op.fieldAddr 28 (Operand.tmp 1) 0, _, _, _, some (2, false)⟩ rfl (fun _ _ _ h => h) ?_ hHeld ?_
        rotate_left
        · (intro W _; go_simp <;> (try with_reducible rfl))
        refine take_v (v := ?_) 12 ⟨some 65, Op.load 3 (Operand.tmp 64), _, _, _, some (2, false)⟩ rfl (fun _ _ _ h => h) ?_ hHeld ?_
        rotate_left
        · (intro W hSW; (have s0 := hSW.1.cell 0 rfl; have s1 := hSW.1.cell 1 rfl; have s2 := hSW.1.cell 2 rfl; have s3 := hSW.1.cell 3 rfl; have s4 := hSW.1.cell 4 rfl; have s5 := hSW.1.cell 5 rfl; have sz := hSW.1.2; have sc := hSW.2.1; have sk9 := hSW.2.2.1; have z1 := hSW.2.2.2.1; have z2 := hSW.2.2.2.2); go_simp <;> (try with_reducible rfl))
        refine take_v (v := ?_) 13 ⟨some 66, Op.binOp BinOp.add 3 (Operand.tmp 63) (Operand.tmp 65) 3, _, _, _, some (2, false)⟩ rfl (fun _ _ _ h => h) ?_ hHeld ?_
        rotate_left
        · (intro W _; go_simp <;> (try with_reducible rfl))
        refine ready_call 14 ⟨some 67, Op.call { callee := Callee.value (Operand.func 55), args := #[Operand.tmp 56, Operand.tmp 61, Operand.tmp 66], argTypes := #[3, 3, 3] }, _, _, _, some (2, false)⟩ (by kernel_rfl) rfl (by kernel_rfl) (fun KC hK => ?_)
        go_wp2_with fail
        refine (show Calls _ _ _ _ (fun r w' => r = .returned (.bool true) ∧ w' = _) from HC1.out ▸ l1In_any _ _ _ _).mono ?_
        rintro r w' ⟨rfl, hw'⟩
        have hw' := hw'.symm
        subst hw'
        refine hK.out _ _ HS0.out (fun hHeld => ?_)
        clear hK KC
        refine take_v (v := ?_) 15 ⟨some 68, Op.unOp UnOp.not 4 (Operand.tmp 67), _, _, _, some (2, false)⟩ rfl (fun _ _ _ h => h) ?_ hHeld ?_
        rotate_left
        · (intro W _; go_simp <;> (try with_reducible rfl))
        refine take_v (v := ?_) 16 ⟨some 69, Op.pick (Operand.tmp 55) (Operand.const (Value.bool true)) (Operand.tmp 68), _, _, _, none⟩ rfl (fun _ _ _ h => h) ?_ hHeld ?_
        rotate_left
        · (intro W _; go_simp <;> (try with_reducible rfl))
        refine take_v (v := ?_) 17 ⟨some 70, Op.move (Operand.tmp 69), _, _, _, none⟩ rfl (fun _ _ _ h => h) ?_ hHeld ?_
        rotate_left
        · (intro W _; go_simp <;> (try with_reducible rfl))
        refine take_v (v := ?_) 18 ⟨some 71, Op.fieldAddr 28 (Operand.tmp 1) 5, _, _, _, some (17, false)⟩ rfl (fun _ _ _ h => h) ?_ hHeld ?_
        rotate_left
        · (intro W _; go_simp <;> (try with_reducible rfl))
        refine take_v (v := ?_) 19 ⟨some 72, Op.load 26 (Operand.tmp 71), _, _, _, some (17, false)⟩ rfl (fun _ _ _ h => h) ?_ hHeld ?_
        rotate_left
        · (intro W hSW; (have s0 := hSW.1.cell 0 rfl; have s1 := hSW.1.cell 1 rfl; have s2 := hSW.1.cell 2 rfl; have s3 := hSW.1.cell 3 rfl; have s4 := hSW.1.cell 4 rfl; have s5 := hSW.1.cell 5 rfl; have sz := hSW.1.2; have sc := hSW.2.1; have sk9 := hSW.2.2.1; have z1 := hSW.2.2.2.1; have z2 := hSW.2.2.2.2); go_simp <;> (try with_reducible rfl))
        refine take_v (v := ?_) 20 ⟨some 73, Op.move (Operand.tmp 4), _, _, _, some (17, false)⟩ rfl (fun _ _ _ h => h) ?_ hHeld ?_
        rotate_left
        · (intro W _; go_simp <;> (try with_reducible rfl))
        refine take_v (v := ?_) 21 ⟨some 74, Op.indexAddr 26 (Operand.tmp 72) (Operand.tmp 73), _, _, _, some (17, false)⟩ rfl (fun _ _ _ h => h) ?_ hHeld ?_
        rotate_left
        · (intro W _; go_simp <;> (try with_reducible rfl))
        refine take_v (v := ?_) 22 ⟨some 75, Op.load 3 (Operand.tmp 74), _, _, _, some (17, false)⟩ rfl (fun _ _ _ h => h) ?_ hHeld ?_
        rotate_left
        · (intro W hSW; (have s0 := hSW.1.cell 0 rfl; have s1 := hSW.1.cell 1 rfl; have s2 := hSW.1.cell 2 rfl; have s3 := hSW.1.cell 3 rfl; have s4 := hSW.1.cell 4 rfl; have s5 := hSW.1.cell 5 rfl; have sz := hSW.1.2; have sc := hSW.2.1; have sk9 := hSW.2.2.1; have z1 := hSW.2.2.2.1; have z2 := hSW.2.2.2.2); go_simp <;> (try with_reducible rfl))
        refine take_v (v := ?_) 23 ⟨some 76, Op.fieldAddr 28 (Operand.tmp 1) 4, _, _, _, some (17, false)⟩ rfl (fun _ _ _ h => h) ?_ hHeld ?_
        rotate_left
        · (intro W _; go_simp <;> (try with_reducible rfl))
        refine take_v (v := ?_) 24 ⟨some 77, Op.load 3 (Operand.tmp 76), _, _, _, some (17, false)⟩ rfl (fun _ _ _ h => h) ?_ hHeld ?_
        rotate_left
        · (intro W hSW; (have s0 := hSW.1.cell 0 rfl; have s1 := hSW.1.cell 1 rfl; have s2 := hSW.1.cell 2 rfl; have s3 := hSW.1.cell 3 rfl; have s4 := hSW.1.cell 4 rfl; have s5 := hSW.1.cell 5 rfl; have sz := hSW.1.2; have sc := hSW.2.1; have sk9 := hSW.2.2.1; have z1 := hSW.2.2.2.1; have z2 := hSW.2.2.2.2); go_simp <;> (try with_reducible rfl))
        refine ready_call 25 ⟨some 78, Op.call { callee := Callee.value (Operand.func 55), args := #[Operand.tmp 75, Operand.const (Value.int IntKind.i64 0), Operand.tmp 77], argTypes := #[3, 3, 3] }, _, _, _, some (17, false)⟩ (by kernel_rfl) rfl (by kernel_rfl) (fun KC hK => ?_)
        go_wp2_with fail
        refine (show Calls _ _ _ _ (fun r w' => r = .returned (.bool true) ∧ w' = _) from HC2.out ▸ l1In_any _ _ _ _).mono ?_
        rintro r w' ⟨rfl, hw'⟩
        have hw' := hw'.symm
        subst hw'
        refine hK.out _ _ HS0.out (fun hHeld => ?_)
        clear hK KC
        refine take_v (v := ?_) 26 ⟨some 79, Op.unOp UnOp.not 4 (Operand.tmp 78), _, _, _, some (17, false)⟩ rfl (fun _ _ _ h => h) ?_ hHeld ?_
        rotate_left
        · (intro W _; go_simp <;> (try with_reducible rfl))
        refine take_v (v := ?_) 27 ⟨some 80, Op.pick (Operand.tmp 70) (Operand.const (Value.bool true)) (Operand.tmp 79), _, _, _, none⟩ rfl (fun _ _ _ h => h) ?_ hHeld ?_
        rotate_left
        · (intro W _; go_simp <;> (try with_reducible rfl))
        refine take_v (v := ?_) 28 ⟨some 81, Op.move (Operand.tmp 80), _, _, _, none⟩ rfl (fun _ _ _ h => h) ?_ hHeld ?_
        rotate_left
        · (intro W _; go_simp <;> (try with_reducible rfl))
        refine take_v (v := ?_) 29 ⟨some 82, Op.move (Operand.tmp 4), _, _, _, some (28, false)⟩ rfl (fun _ _ _ h => h) ?_ hHeld ?_
        rotate_left
        · (intro W _; go_simp <;> (try with_reducible rfl))
        refine take_v (v := ?_) 30 ⟨some 83, Op.fieldAddr 28 (Operand.tmp 1) 3, _, _, _, some (28, false)⟩ rfl (fun _ _ _ h => h) ?_ hHeld ?_
        rotate_left
        · (intro W _; go_simp <;> (try with_reducible rfl))
        refine take_v (v := ?_) 31 ⟨some 84, Op.load 3 (Operand.tmp 83), _, _, _, some (28, false)⟩ rfl (fun _ _ _ h => h) ?_ hHeld ?_
        rotate_left
        · (intro W hSW; (have s0 := hSW.1.cell 0 rfl; have s1 := hSW.1.cell 1 rfl; have s2 := hSW.1.cell 2 rfl; have s3 := hSW.1.cell 3 rfl; have s4 := hSW.1.cell 4 rfl; have s5 := hSW.1.cell 5 rfl; have sz := hSW.1.2; have sc := hSW.2.1; have sk9 := hSW.2.2.1; have z1 := hSW.2.2.2.1; have z2 := hSW.2.2.2.2); go_simp <;> (try with_reducible rfl))
        refine take_v (v := ?_) 32 ⟨some 85, Op.binOp BinOp.neq 3 (Operand.tmp 82) (Operand.tmp 84) 3, _, _, _, some (28, false)⟩ rfl (fun _ _ _ h => h) ?_ hHeld ?_
        rotate_left
        · (intro W _; go_simp <;> (try with_reducible rfl))
        refine take_v (v := ?_) 33 ⟨some 86, Op.move (Operand.tmp 85), _, _, _, some (28, false)⟩ rfl (fun _ _ _ h => h) ?_ hHeld ?_
        rotate_left
        · (intro W _; go_simp <;> (try with_reducible rfl))
        refine take_n 34 ⟨some 87, Op.fieldAddr 28 (Operand.tmp 1) 5, _, _, _, some (33, true)⟩ rfl (fun _ _ _ h => h) hHeld ?_
        refine take_n 35 ⟨some 88, Op.load 26 (Operand.tmp 87), _, _, _, some (33, true)⟩ rfl (fun _ _ _ h => h) hHeld ?_
        refine take_n 36 ⟨some 89, Op.move (Operand.tmp 4), _, _, _, some (33, true)⟩ rfl (fun _ _ _ h => h) hHeld ?_
        refine take_n 37 ⟨some 90, Op.indexAddr 26 (Operand.tmp 88) (Operand.tmp 89), _, _, _, some (33, true)⟩ rfl (fun _ _ _ h => h) hHeld ?_
        refine take_n 38 ⟨some 91, Op.load 3 (Operand.tmp 90), _, _, _, some (33, true)⟩ rfl (fun _ _ _ h => h) hHeld ?_
        refine take_n 39 ⟨some 92, Op.fieldAddr 28 (Operand.tmp 1) 1, _, _, _, some (33, true)⟩ rfl (fun _ _ _ h => h) hHeld ?_
        refine take_n 40 ⟨some 93, Op.load 3 (Operand.tmp 92), _, _, _, some (33, true)⟩ rfl (fun _ _ _ h => h) hHeld ?_
        refine take_n 41 ⟨some 94, Op.binOp BinOp.gtr 3 (Operand.tmp 91) (Operand.tmp 93) 3, _, _, _, some (33, true)⟩ rfl (fun _ _ _ h => h) hHeld ?_
        refine take_v (v := ?_) 42 ⟨some 95, Op.pick (Operand.tmp 86) (Operand.tmp 94) (Operand.const (Value.bool false)), _, _, _, some (28, false)⟩ rfl (fun _ _ _ h => h) ?_ hHeld ?_
        rotate_left
        · (intro W _; go_simp <;> (try with_reducible rfl))
        refine take_v (v := ?_) 43 ⟨some 96, Op.pick (Operand.tmp 81) (Operand.const (Value.bool true)) (Operand.tmp 95), _, _, _, none⟩ rfl (fun _ _ _ h => h) ?_ hHeld ?_
        rotate_left
        · (intro W _; go_simp <;> (try with_reducible rfl))
        refine wpAnyH_done (by kernel_rfl) ?_ _
        refine NoPanic.normal ?_
        clear hHeld
        go_wp2
        go_roundw
        case rel => exact ⟨k + 1, by omega, by go_num, or_upto HA.out.1 HN.out, HBX.out, HB2.out⟩
        case measure => simp [intOf]; omega
      have e4b : ((k : Int) != ho) = true := by simp [e4]
      by_cases e5 : nw < x
      · have e5b : decide (nw < x) = true := decide_eq_true e5
        have HN : Hid (¬ goodL sk nw cl ho un kn) := Hid.intro (HXc.out c x HE.out.1 HE.out.2 (fun q => by have := q.2.2.2 e4; omega))
        refine wp_region_noPanic ?_
        refine wp_region_held_drew (S := fun W => Bx W w.heap.size [.int .i64 sk, .int .i64 nw, .slice (some ⟨b1, o1, none⟩) m k1, .int .i64 ho, .int .i64 un, .slice (some ⟨b2, o2, none⟩) m k2] ∧ W.cell? ⟨b1, o1 + k, none⟩ = some (.int .i64 c) ∧ W.cell? ⟨b2, o2 + k, none⟩ = some (.int .i64 x) ∧ (b1 < W.heap.size ∧ b2 < W.heap.size)) (by kernel_rfl) HS0.out (fun hHeld => ?_)
        refine take_v (v := ?_) 0 ⟨some 53, Op.move (Operand.tmp 5), _, _, _, none⟩ rfl (fun _ _ _ h => h) ?_ hHeld ?_
        rotate_left
        · (intro W _; go_simp <;> (try with_reducible rfl))
        refine take_v (v := ?_) 1 ⟨some 54, Op.binOp BinOp.lss 3 (Operand.tmp 53) (Operand.const (Value.int IntKind.i64 0)) 3, _, _, _, none⟩ rfl (fun _ _ _ h => h) ?_ hHeld ?_
        rotate_left
        · (intro W _; go_simp <;> (try with_reducible rfl))
        refine take_v (v := ?_) 2 ⟨some 55, Op.move (Operand.tmp 54), _, _, _, none⟩ rfl (fun _ _ _ h => h) ?_ hHeld ?_
        rotate_left
        · (intro W _; go_simp <;> (try with_reducible rfl))
        refine take_v (v := ?_) 3 ⟨some 56, Op.move (Operand.tmp 5), _, _, _, some (2, false)⟩ rfl (fun _ _ _ h => h) ?_ hHeld ?_
        rotate_left
        · (intro W _; go_simp <;> (try with_reducible rfl))
        refine take_v (v := ?_) 4 ⟨some 57, Op.fieldAddr 28 (Operand.tmp 1) 1, _, _, _, some (2, false)⟩ rfl (fun _ _ _ h => h) ?_ hHeld ?_
        rotate_left
        · (intro W _; go_simp <;> (try with_reducible rfl))
        refine take_v (v := ?_) 5 ⟨some 58, Op.load 3 (Operand.tmp 57), _, _, _, some (2, false)⟩ rfl (fun _ _ _ h => h) ?_ hHeld ?_
        rotate_left
        · (intro W hSW; (have s0 := hSW.1.cell 0 rfl; have s1 := hSW.1.cell 1 rfl; have s2 := hSW.1.cell 2 rfl; have s3 := hSW.1.cell 3 rfl; have s4 := hSW.1.cell 4 rfl; have s5 := hSW.1.cell 5 rfl; have sz := hSW.1.2; have sc := hSW.2.1; have sk9 := hSW.2.2.1; have z1 := hSW.2.2.2.1; have z2 := hSW.2.2.2.2); go_simp <;> (try with_reducible rfl))
        refine take_v (v := ?_) 6 ⟨some 59, Op.fieldAddr 28 (Operand.tmp 1) 0, _, _, _, some (2, false)⟩ rfl (fun _ _ _ h => h) ?_ hHeld ?_
        rotate_left
        · (intro W _; go_simp <;> (try with_reducible rfl))
        refine take_v (v := ?_) 7 ⟨some 60, Op.load 3 (Operand.tmp 59), _, _, _, some (2, false)⟩ rfl (fun _ _ _ h => h) ?_ hHeld ?_
        rotate_left
        · (intro W hSW; (have s0 := hSW.1.cell 0 rfl; have s1 := hSW.1.cell 1 rfl; have s2 := hSW.1.cell 2 rfl; have s3 := hSW.1.cell 3 rfl; have s4 := hSW.1.cell 4 rfl; have s5 := hSW.1.cell 5 rfl; have sz := hSW.1.2; have sc := hSW.2.1; have sk9 := hSW.2.2.1; have z1 := hSW.2.2.2.1; have z2 := hSW.2.2.2.2); go_simp <;> (try with_reducible rfl))
        refine take_v (v := ?_) 8 ⟨some 61, Op.binOp BinOp.sub 3 (Operand.tmp 58) (Operand.tmp 60) 3, _, _, _, some (2, false)⟩ rfl (fun _ _ _ h => h) ?_ hHeld ?_
        rotate_left
        · (intro W _; go_simp <;> (try with_reducible rfl))
        refine take_v (v := ?_) 9 ⟨some 62, Op.fieldAddr 28 (Operand.tmp 1) 1, _, _, _, some (2, false)⟩ rfl (fun _ _ _ h => h) ?_ hHeld ?_
        rotate_left
        · (intro W _; go_simp <;> (try with_reducible rfl))
        refine take_v (v := ?_) 10 ⟨some 63, Op.load 3 (Operand.tmp 62), _, _, _, some (2, false)⟩ rfl (fun _ _ _ h => h) ?_ hHeld ?_
        rotate_left
        · (intro W hSW; (have s0 := hSW.1.cell 0 rfl; have s1 := hSW.1.cell 1 rfl; have s2 := hSW.1.cell 2 rfl; have s3 := hSW.1.cell 3 rfl; have s4 := hSW.1.cell 4 rfl; have s5 := hSW.1.cell 5 rfl; have sz := hSW.1.2; have sc := hSW.2.1; have sk9 := hSW.2.2.1; have z1 := hSW.2.2.2.1; have z2 := hSW.2.2.2.2); go_simp <;> (try with_reducible rfl))
        refine take_v (v := ?_) 11 ⟨some 64, Op.fieldAddr 28 (Operand.tmp 1) 0, _, _, _, some (2, false)⟩ rfl (fun _ _ _ h => h) ?_ hHeld ?_
        rotate_left
        · (intro W _; go_simp <;> (try with_reducible rfl))
        refine take_v (v := ?_) 12 ⟨some 65, Op.load 3 (Operand.tmp 64), _, _, _, some (2, false)⟩ rfl (fun _ _ _ h => h) ?_ hHeld ?_
        rotate_left
        · (intro W hSW; (have s0 := hSW.1.cell 0 rfl; have s1 := hSW.1.cell 1 rfl; have s2 := hSW.1.cell 2 rfl; have s3 := hSW.1.cell 3 rfl; have s4 := hSW.1.cell 4 rfl; have s5 := hSW.1.cell 5 rfl; have sz := hSW.1.2; have sc := hSW.2.1; have sk9 := hSW.2.2.1; have z1 := hSW.2.2.2.1; have z2 := hSW.2.2.2.2); go_simp <;> (try with_reducible rfl))
        refine take_v (v := ?_) 13 ⟨some 66, Op.binOp BinOp.add 3 (Operand.tmp 63) (Operand.tmp 65) 3, _, _, _, some (2, false)⟩ rfl (fun _ _ _ h => h) ?_ hHeld ?_
        rotate_left
        · (intro W _; go_simp <;> (try with_reducible rfl))
        refine ready_call 14 ⟨some 67, Op.call { callee := Callee.value (Operand.func 55), args := #[Operand.tmp 56, Operand.tmp 61, Operand.tmp 66], argTypes := #[3, 3, 3] }, _, _, _, some (2, false)⟩ (by kernel_rfl) rfl (by kernel_rfl) (fun KC hK => ?_)
        go_wp2_with fail
        refine (show Calls _ _ _ _ (fun r w' => r = .returned (.bool true) ∧ w' = _) from HC1.out ▸ l1In_any _ _ _ _).mono ?_
        rintro r w' ⟨rfl, hw'⟩
        have hw' := hw'.symm
        subst hw'
        refine hK.out _ _ HS0.out (fun hHeld => ?_)
        clear hK KC
        refine take_v (v := ?_) 15 ⟨some 68, Op.unOp UnOp.not 4 (Operand.tmp 67), _, _, _, some (2, false)⟩ rfl (fun _ _ _ h => h) ?_ hHeld ?_
        rotate_left
        · (intro W _; go_simp <;> (try with_reducible rfl))
        refine take_v (v := ?_) 16 ⟨some 69, Op.pick (Operand.tmp 55) (Operand.const (Value.bool true)) (Operand.tmp 68), _, _, _, none⟩ rfl (fun _ _ _ h => h) ?_ hHeld ?_
        rotate_left
        · (intro W _; go_simp <;> (try with_reducible rfl))
        refine take_v (v := ?_) 17 ⟨some 70, Op.move (Operand.tmp 69), _, _, _, none⟩ rfl (fun _ _ _ h => h) ?_ hHeld ?_
        rotate_left
        · (intro W _; go_simp <;> (try with_reducible rfl))
        refine take_v (v := ?_) 18 ⟨some 71, Op.fieldAddr 28 (Operand.tmp 1) 5, _, _, _, some (17, false)⟩ rfl (fun _ _ _ h => h) ?_ hHeld ?_
        rotate_left
        · (intro W _; go_simp <;> (try with_reducible rfl))
        refine take_v (v := ?_) 19 ⟨some 72, Op.load 26 (Operand.tmp 71), _, _, _, some (17, false)⟩ rfl (fun _ _ _ h => h) ?_ hHeld ?_
        rotate_left
        · (intro W hSW; (have s0 := hSW.1.cell 0 rfl; have s1 := hSW.1.cell 1 rfl; have s2 := hSW.1.cell 2 rfl; have s3 := hSW.1.cell 3 rfl; have s4 := hSW.1.cell 4 rfl; have s5 := hSW.1.cell 5 rfl; have sz := hSW.1.2; have sc := hSW.2.1; have sk9 := hSW.2.2.1; have z1 := hSW.2.2.2.1; have z2 := hSW.2.2.2.2); go_simp <;> (try with_reducible rfl))
        refine take_v (v := ?_) 20 ⟨some 73, Op.move (Operand.tmp 4), _, _, _, some (17, false)⟩ rfl (fun _ _ _ h => h) ?_ hHeld ?_
        rotate_left
        · (intro W _; go_simp <;> (try with_reducible rfl))
        refine take_v (v := ?_) 21 ⟨some 74, Op.indexAddr 26 (Operand.tmp 72) (Operand.tmp 73), _, _, _, some (17, false)⟩ rfl (fun _ _ _ h => h) ?_ hHeld ?_
        rotate_left
        · (intro W _; go_simp <;> (try with_reducible rfl))
        refine take_v (v := ?_) 22 ⟨some 75, Op.load 3 (Operand.tmp 74), _, _, _, some (17, false)⟩ rfl (fun _ _ _ h => h) ?_ hHeld ?_
        rotate_left
        · (intro W hSW; (have s0 := hSW.1.cell 0 rfl; have s1 := hSW.1.cell 1 rfl; have s2 := hSW.1.cell 2 rfl; have s3 := hSW.1.cell 3 rfl; have s4 := hSW.1.cell 4 rfl; have s5 := hSW.1.cell 5 rfl; have sz := hSW.1.2; have sc := hSW.2.1; have sk9 := hSW.2.2.1; have z1 := hSW.2.2.2.1; have z2 := hSW.2.2.2.2); go_simp <;> (try with_reducible rfl))
        refine take_v (v := ?_) 23 ⟨some 76, Op.fieldAddr 28 (Operand.tmp 1) 4, _, _, _, some (17, false)⟩ rfl (fun _ _ _ h => h) ?_ hHeld ?_
        rotate_left
        · (intro W _; go_simp <;> (try with_reducible rfl))
        refine take_v (v := ?_) 24 ⟨some 77, Op.load 3 (Operand.tmp 76), _, _, _, some (17, false)⟩ rfl (fun _ _ _ h => h) ?_ hHeld ?_
        rotate_left
        · (intro W hSW; (have s0 := hSW.1.cell 0 rfl; have s1 := hSW.1.cell 1 rfl; have s2 := hSW.1.cell 2 rfl; have s3 := hSW.1.cell 3 rfl; have s4 := hSW.1.cell 4 rfl; have s5 := hSW.1.cell 5 rfl; have sz := hSW.1.2; have sc := hSW.2.1; have sk9 := hSW.2.2.1; have z1 := hSW.2.2.2.1; have z2 := hSW.2.2.2.2); go_simp <;> (try with_reducible rfl))
        refine ready_call 25 ⟨some 78, Op.call { callee := Callee.value (Operand.func 55), args := #[Operand.tmp 75, Operand.const (Value.int IntKind.i64 0), Operand.tmp 77], argTypes := #[3, 3, 3] }, _, _, _, some (17, false)⟩ (by kernel_rfl) rfl (by kernel_rfl) (fun KC hK => ?_)
        go_wp2_with fail
        refine (show Calls _ _ _ _ (fun r w' => r = .returned (.bool true) ∧ w' = _) from HC2.out ▸ l1In_any _ _ _ _).mono ?_
        rintro r w' ⟨rfl, hw'⟩
        have hw' := hw'.symm
        subst hw'
        refine hK.out _ _ HS0.out (fun hHeld => ?_)
        clear hK KC
        refine take_v (v := ?_) 26 ⟨some 79, Op.unOp UnOp.not 4 (Operand.tmp 78), _, _, _, some (17, false)⟩ rfl (fun _ _ _ h => h) ?_ hHeld ?_
        rotate_left
        · (intro W _; go_simp <;> (try with_reducible rfl))
        refine take_v (v := ?_) 27 ⟨some 80, Op.pick (Operand.tmp 70) (Operand.const (Value.bool true)) (Operand.tmp 79), _, _, _, none⟩ rfl (fun _ _ _ h => h) ?_ hHeld ?_
        rotate_left
        · (intro W _; go_simp <;> (try with_reducible rfl))
        refine take_v (v := ?_) 28 ⟨some 81, Op.move (Operand.tmp 80), _, _, _, none⟩ rfl (fun _ _ _ h => h) ?_ hHeld ?_
        rotate_left
        · (intro W _; go_simp <;> (try with_reducible rfl))
        refine take_v (v := ?_) 29 ⟨some 82, Op.move (Operand.tmp 4), _, _, _, some (28, false)⟩ rfl (fun _ _ _ h => h) ?_ hHeld ?_
        rotate_left
        · (intro W _; go_simp <;> (try with_reducible rfl))
        refine take_v (v := ?_) 30 ⟨some 83, Op.fieldAddr 28 (Operand.tmp 1) 3, _, _, _, some (28, false)⟩ rfl (fun _ _ _ h => h) ?_ hHeld ?_
        rotate_left
        · (intro W _; go_simp <;> (try with_reducible rfl))
        refine take_v (v := ?_) 31 ⟨some 84, Op.load 3 (Operand.tmp 83), _, _, _, some (28, false)⟩ rfl (fun _ _ _ h => h) ?_ hHeld ?_
        rotate_left
        · (intro W hSW; (have s0 := hSW.1.cell 0 rfl; have s1 := hSW.1.cell 1 rfl; have s2 := hSW.1.cell 2 rfl; have s3 := hSW.1.cell 3 rfl; have s4 := hSW.1.cell 4 rfl; have s5 := hSW.1.cell 5 rfl; have sz := hSW.1.2; have sc := hSW.2.1; have sk9 := hSW.2.2.1; have z1 := hSW.2.2.2.1; have z2 := hSW.2.2.2.2); go_simp <;> (try with_reducible rfl))
        refine take_v (v := ?_) 32 ⟨some 85, Op.binOp BinOp.neq 3 (Operand.tmp 82) (Operand.tmp 84) 3, _, _, _, some (28, false)⟩ rfl (fun _ _ _ h => h) ?_ hHeld ?_
        rotate_left
        · (intro W _; go_simp <;> (try with_reducible rfl))
        refine take_v (v := ?_) 33 ⟨some 86, Op.move (Operand.tmp 85), _, _, _, some (28, false)⟩ rfl (fun _ _ _ h => h) ?_ hHeld ?_
        rotate_left
        · (intro W _; go_simp <;> (try with_reducible rfl))
        refine take_v (v := ?_) 34 ⟨some 87, Op.fieldAddr 28 (Operand.tmp 1) 5, _, _, _, some (33, true)⟩ rfl (fun _ _ _ h => h) ?_ hHeld ?_
        rotate_left
        · (intro W _; go_simp <;> (try with_reducible rfl))
        refine take_v (v := ?_) 35 ⟨some 88, Op.load 26 (Operand.tmp 87), _, _, _, some (33, true)⟩ rfl (fun _ _ _ h => h) ?_ hHeld ?_
        rotate_left
        · (intro W hSW; (have s0 := hSW.1.cell 0 rfl; have s1 := hSW.1.cell 1 rfl; have s2 := hSW.1.cell 2 rfl; have s3 := hSW.1.cell 3 rfl; have s4 := hSW.1.cell 4 rfl; have s5 := hSW.1.cell 5 rfl; have sz := hSW.1.2; have sc := hSW.2.1; have sk9 := hSW.2.2.1; have z1 := hSW.2.2.2.1; have z2 := hSW.2.2.2.2); go_simp <;> (try with_reducible rfl))
        refine take_v (v := ?_) 36 ⟨some 89, Op.move (Operand.tmp 4), _, _, _, some (33, true)⟩ rfl (fun _ _ _ h => h) ?_ hHeld ?_
        rotate_left
        · (intro W _; go_simp <;> (try with_reducible rfl))
        refine take_v (v := ?_) 37 ⟨some 90, Op.indexAddr 26 (Operand.tmp 88) (Operand.tmp 89), _, _, _, some (33, true)⟩ rfl (fun _ _ _ h => h) ?_ hHeld ?_
        rotate_left
        · (intro W _; go_simp <;> (try with_reducible rfl))
        refine take_v (v := ?_) 38 ⟨some 91, Op.load 3 (Operand.tmp 90), _, _, _, some (33, true)⟩ rfl (fun _ _ _ h => h) ?_ hHeld ?_
        rotate_left
        · (intro W hSW; (have s0 := hSW.1.cell 0 rfl; have s1 := hSW.1.cell 1 rfl; have s2 := hSW.1.cell 2 rfl; have s3 := hSW.1.cell 3 rfl; have s4 := hSW.1.cell 4 rfl; have s5 := hSW.1.cell 5 rfl; have sz := hSW.1.2; have sc := hSW.2.1; have sk9 := hSW.2.2.1; have z1 := hSW.2.2.2.1; have z2 := hSW.2.2.2.2); go_simp <;> (try with_reducible rfl))
        refine take_v (v := ?_) 39 ⟨some 92, Op.fieldAddr 28 (Operand.tmp 1) 1, _, _, _, some (33, true)⟩ rfl (fun _ _ _ h => h) ?_ hHeld ?_
        rotate_left
        · (intro W _; go_simp <;> (try with_reducible rfl))
        refine take_v (v := ?_) 40 ⟨some 93, Op.load 3 (Operand.tmp 92), _, _, _, some (33, true)⟩ rfl (fun _ _ _ h => h) ?_ hHeld ?_
        rotate_left
        · (intro W hSW; (have s0 := hSW.1.cell 0 rfl; have s1 := hSW.1.cell 1 rfl; have s2 := hSW.1.cell 2 rfl; have s3 := hSW.1.cell 3 rfl; have s4 := hSW.1.cell 4 rfl; have s5 := hSW.1.cell 5 rfl; have sz := hSW.1.2; have sc := hSW.2.1; have sk9 := hSW.2.2.1; have z1 := hSW.2.2.2.1; have z2 := hSW.2.2.2.2); go_simp <;> (try with_reducible rfl))
        refine take_v (v := ?_) 41 ⟨some 94, Op.binOp BinOp.gtr 3 (Operand.tmp 91) (Operand.tmp 93) 3, _, _, _, some (33, true)⟩ rfl (fun _ _ _ h => h) ?_ hHeld ?_
        rotate_left
        · (intro W _; go_simp <;> (try with_reducible rfl))
        refine take_v (v := ?_) 42 ⟨some 95, Op.pick (Operand.tmp 86) (Operand.tmp 94) (Operand.const (Value.bool false)), _, _, _, some (28, false)⟩ rfl (fun _ _ _ h => h) ?_ hHeld ?_
        rotate_left
        · (intro W _; go_simp <;> (try with_reducible rfl))
        refine take_v (v := ?_) 43 ⟨some 96, Op.pick (Operand.tmp 81) (Operand.const (Value.bool true)) (Operand.tmp 95), _, _, _, none⟩ rfl (fun _ _ _ h => h) ?_ hHeld ?_
        rotate_left
        · (intro W _; go_simp <;> (try with_reducible rfl))
        refine wpAnyH_done (by kernel_rfl) ?_ _
        refine NoPanic.normal ?_
        clear hHeld
        go_wp2
        go_ret
        exact ⟨good_no HN.out, HB2.out⟩
      · have e5b : decide (nw < x) = false := decide_eq_false e5
        have HN : Hid (nodeP sk nw ho un k (atI cl k) (atI kn k)) := Hid.intro (by rw [HE.out.1, HE.out.2]; exact ⟨HNE.out, HK.out.1, HK.out.2, fun q => by omega⟩)
        refine wp_region_noPanic ?_
        refine wp_region_held_drew (S := fun W => Bx W w.heap.size [.int .i64 sk, .int .i64 nw, .slice (some ⟨b1, o1, none⟩) m k1, .int .i64 ho, .int .i64 un, .slice (some ⟨b2, o2, none⟩) m k2] ∧ W.cell? ⟨b1, o1 + k, none⟩ = some (.int .i64 c) ∧ W.cell? ⟨b2, o2 + k, none⟩ = some (.int .i64 x) ∧ (b1 < W.heap.size ∧ b2 < W.heap.size)) (by kernel_rfl) HS0.out (fun hHeld => ?_)
        refine take_v (v := ?_) 0 ⟨some 53, Op.move (Operand.tmp 5), _, _, _, none⟩ rfl (fun _ _ _ h => h) ?_ hHeld ?_
        rotate_left
        · (intro W _; go_simp <;> (try with_reducible rfl))
        refine take_v (v := ?_) 1 ⟨some 54, Op.binOp BinOp.lss 3 (Operand.tmp 53) (Operand.const (Value.int IntKind.i64 0)) 3, _, _, _, none⟩ rfl (fun _ _ _ h => h) ?_ hHeld ?_
        rotate_left
        · (intro W _; go_simp <;> (try with_reducible rfl))
        refine take_v (v := ?_) 2 ⟨some 55, Op.move (Operand.tmp 54), _, _, _, none⟩ rfl (fun _ _ _ h => h) ?_ hHeld ?_
        rotate_left
        · (intro W _; go_simp <;> (try with_reducible rfl))
        refine take_v (v := ?_) 3 ⟨some 56, Op.move (Operand.tmp 5), _, _, _, some (2, false)⟩ rfl (fun _ _ _ h => h) ?_ hHeld ?_
        rotate_left
        · (intro W _; go_simp <;> (try with_reducible rfl))
        refine take_v (v := ?_) 4 ⟨some 57, Op.fieldAddr 28 (Operand.tmp 1) 1, _, _, _, some (2, false)⟩ rfl (fun _ _ _ h => h) ?_ hHeld ?_
        rotate_left
        · (intro W _; go_simp <;> (try with_reducible rfl))
        refine take_v (v := ?_) 5 ⟨some 58, Op.load 3 (Operand.tmp 57), _, _, _, some (2, false)⟩ rfl (fun _ _ _ h => h) ?_ hHeld ?_
        rotate_left
        · (intro W hSW; (have s0 := hSW.1.cell 0 rfl; have s1 := hSW.1.cell 1 rfl; have s2 := hSW.1.cell 2 rfl; have s3 := hSW.1.cell 3 rfl; have s4 := hSW.1.cell 4 rfl; have s5 := hSW.1.cell 5 rfl; have sz := hSW.1.2; have sc := hSW.2.1; have sk9 := hSW.2.2.1; have z1 := hSW.2.2.2.1; have z2 := hSW.2.2.2.2); go_simp <;> (try with_reducible rfl))
        refine take_v (v := ?_) 6 ⟨some 59, Op.fieldAddr 28 (Operand.tmp 1) 0, _, _, _, some (2, false)⟩ rfl (fun _ _ _ h => h) ?_ hHeld ?_
        rotate_left
        · (intro W _; go_simp <;> (try with_reducible rfl))
        refine take_v (v := ?_) 7 ⟨some 60, Op.load 3 (Operand.tmp 59), _, _, _, some (2, false)⟩ rfl (fun _ _ _ h => h) ?_ hHeld ?_
        rotate_left
        · (intro W hSW; (have s0 := hSW.1.cell 0 rfl; have s1 := hSW.1.cell 1 rfl; have s2 := hSW.1.cell 2 rfl; have s3 := hSW.1.cell 3 rfl; have s4 := hSW.1.cell 4 rfl; have s5 := hSW.1.cell 5 rfl; have sz := hSW.1.2; have sc := hSW.2.1; have sk9 := hSW.2.2.1; have z1 := hSW.2.2.2.1; have z2 := hSW.2.2.2.2); go_simp <;> (try with_reducible rfl))
        refine take_v (v := ?_) 8 ⟨some 61, Op.binOp BinOp.sub 3 (Operand.tmp 58) (Operand.tmp 60) 3, _, _, _, some (2, false)⟩ rfl (fun _ _ _ h => h) ?_ hHeld ?_
        rotate_left
        · (intro W _; go_simp <;> (try with_reducible rfl))
        refine take_v (v := ?_) 9 ⟨some 62, Op.fieldAddr 28 (Operand.tmp 1) 1, _, _, _, some (2, false)⟩ rfl (fun _ _ _ h => h) ?_ hHeld ?_
        rotate_left
        · (intro W _; go_simp <;> (try with_reducible rfl))
        refine take_v (v := ?_) 10 ⟨some 63, Op.load 3 (Operand.tmp 62), _, _, _, some (2, false)⟩ rfl (fun _ _ _ h => h) ?_ hHeld ?_
        rotate_left
        · (intro W hSW; (have s0 := hSW.1.cell 0 rfl; have s1 := hSW.1.cell 1 rfl; have s2 := hSW.1.cell 2 rfl; have s3 := hSW.1.cell 3 rfl; have s4 := hSW.1.cell 4 rfl; have s5 := hSW.1.cell 5 rfl; have sz := hSW.1.2; have sc := hSW.2.1; have sk9 := hSW.2.2.1; have z1 := hSW.2.2.2.1; have z2 := hSW.2.2.2.2); go_simp <;> (try with_reducible rfl))
        refine take_v (v := ?_) 11 ⟨some 64, Op.fieldAddr 28 (Operand.tmp 1) 0, _, _, _, some (2, false)⟩ rfl (fun _ _ _ h => h) ?_ hHeld ?_
        rotate_left
        · (intro W _; go_simp <;> (try with_reducible rfl))
        refine take_v (v := ?_) 12 ⟨some 65, Op.load 3 (Operand.tmp 64), _, _, _, some (2, false)⟩ rfl (fun _ _ _ h => h) ?_ hHeld ?_
        rotate_left
        · (intro W hSW; (have s0 := hSW.1.cell 0 rfl; have s1 := hSW.1.cell 1 rfl; have s2 := hSW.1.cell 2 rfl; have s3 := hSW.1.cell 3 rfl; have s4 := hSW.1.cell 4 rfl; have s5 := hSW.1.cell 5 rfl; have sz := hSW.1.2; have sc := hSW.2.1; have sk9 := hSW.2.2.1; have z1 := hSW.2.2.2.1; have z2 := hSW.2.2.2.2); go_simp <;> (try with_reducible rfl))
        refine take_v (v := ?_) 13 ⟨some 66, Op.binOp BinOp.add 3 (Operand.tmp 63) (Operand.tmp 65) 3, _, _, _, some (2, false)⟩ rfl (fun _ _ _ h => h) ?_ hHeld ?_
        rotate_left
        · (intro W _; go_simp <;> (try with_reducible rfl))
        refine ready_call 14 ⟨some 67, Op.call { callee := Callee.value (Operand.func 55), args := #[Operand.tmp 56, Operand.tmp 61, Operand.tmp 66], argTypes := #[3, 3, 3] }, _, _, _, some (2, false)⟩ (by kernel_rfl) rfl (by kernel_rfl) (fun KC hK => ?_)
        go_wp2_with fail
        refine (show Calls _ _ _ _ (fun r w' => r = .returned (.bool true) ∧ w' = _) from HC1.out ▸ l1In_any _ _ _ _).mono ?_
        rintro r w' ⟨rfl, hw'⟩
        have hw' := hw'.symm
        subst hw'
        refine hK.out _ _ HS0.out (fun hHeld => ?_)
        clear hK KC
        refine take_v (v := ?_) 15 ⟨some 68, Op.unOp UnOp.not 4 (Operand.tmp 67), _, _, _, some (2, false)⟩ rfl (fun _ _ _ h => h) ?_ hHeld ?_
        rotate_left
        · (intro W _; go_simp <;> (try with_reducible rfl))
        refine take_v (v := ?_) 16 ⟨some 69, Op.pick (Operand.tmp 55) (Operand.const (Value.bool true)) (Operand.tmp 68), _, _, _, none⟩ rfl (fun _ _ _ h => h) ?_ hHeld ?_
        rotate_left
        · (intro W _; go_simp <;> (try with_reducible rfl))
        refine take_v (v := ?_) 17 ⟨some 70, Op.move (Operand.tmp 69), _, _, _, none⟩ rfl (fun _ _ _ h => h) ?_ hHeld ?_
        rotate_left
        · (intro W _; go_simp <;> (try with_reducible rfl))
        refine take_v (v := ?_) 18 ⟨some 71, Op.fieldAddr 28 (Operand.tmp 1) 5, _, _, _, some (17, false)⟩ rfl (fun _ _ _ h => h) ?_ hHeld ?_
        rotate_left
        · (intro W _; go_simp <;> (try with_reducible rfl))
        refine take_v (v := ?_) 19 ⟨some 72, Op.load 26 (Operand.tmp 71), _, _, _, some (17, false)⟩ rfl (fun _ _ _ h => h) ?_ hHeld ?_
        rotate_left
        · (intro W hSW; (have s0 := hSW.1.cell 0 rfl; have s1 := hSW.1.cell 1 rfl; have s2 := hSW.1.cell 2 rfl; have s3 := hSW.1.cell 3 rfl; have s4 := hSW.1.cell 4 rfl; have s5 := hSW.1.cell 5 rfl; have sz := hSW.1.2; have sc := hSW.2.1; have sk9 := hSW.2.2.1; have z1 := hSW.2.2.2.1; have z2 := hSW.2.2.2.2); go_simp <;> (try with_reducible rfl))
        refine take_v (v := ?_) 20 ⟨some 73, Op.move (Operand.tmp 4), _, _, _, some (17, false)⟩ rfl (fun _ _ _ h => h) ?_ hHeld ?_
        rotate_left
        · (intro W _; go_simp <;> (try with_reducible rfl))
        refine take_v (v := ?_) 21 ⟨some 74, Op.indexAddr 26 (Operand.tmp 72) (Operand.tmp 73), _, _, _, some (17, false)⟩ rfl (fun _ _ _ h => h) ?_ hHeld ?_
        rotate_left
        · (intro W _; go_simp <;> (try with_reducible rfl))
        refine take_v (v := ?_) 22 ⟨some 75, Op.load 3 (Operand.tmp 74), _, _, _, some (17, false)⟩ rfl (fun _ _ _ h => h) ?_ hHeld ?_
        rotate_left
        · (intro W hSW; (have s0 := hSW.1.cell 0 rfl; have s1 := hSW.1.cell 1 rfl; have s2 := hSW.1.cell 2 rfl; have s3 := hSW.1.cell 3 rfl; have s4 := hSW.1.cell 4 rfl; have s5 := hSW.1.cell 5 rfl; have sz := hSW.1.2; have sc := hSW.2.1; have sk9 := hSW.2.2.1; have z1 := hSW.2.2.2.1; have z2 := hSW.2.2.2.2); go_simp <;> (try with_reducible rfl))
        refine take_v (v := ?_) 23 ⟨some 76, Op.fieldAddr 28 (Operand.tmp 1) 4, _, _, _, some (17, false)⟩ rfl (fun _ _ _ h => h) ?_ hHeld ?_
        rotate_left
        · (intro W _; go_simp <;> (try with_reducible rfl))
        refine take_v (v := ?_) 24 ⟨some 77, Op.load 3 (Operand.tmp 76), _, _, _, some (17, false)⟩ rfl (fun _ _ _ h => h) ?_ hHeld ?_
        rotate_left
        · (intro W hSW; (have s0 := hSW.1.cell 0 rfl; have s1 := hSW.1.cell 1 rfl; have s2 := hSW.1.cell 2 rfl; have s3 := hSW.1.cell 3 rfl; have s4 := hSW.1.cell 4 rfl; have s5 := hSW.1.cell 5 rfl; have sz := hSW.1.2; have sc := hSW.2.1; have sk9 := hSW.2.2.1; have z1 := hSW.2.2.2.1; have z2 := hSW.2.2.2.2); go_simp <;> (try with_reducible rfl))
        refine ready_call 25 ⟨some 78, Op.call { callee := Callee.value (Operand.func 55), args := #[Operand.tmp 75, Operand.const (Value.int IntKind.i64 0), Operand.tmp 77], argTypes := #[3, 3, 3] }, _, _, _, some (17, false)⟩ (by kernel_rfl) rfl (by kernel_rfl) (fun KC hK => ?_)
        go_wp2_with fail
        refine (show Calls _ _ _ _ (fun r w' => r = .returned (.bool true) ∧ w' = _) from HC2.out ▸ l1In_any _ _ _ _).mono ?_
        rintro r w' ⟨rfl, hw'⟩
        have hw' := hw'.symm
        subst hw'
        refine hK.out _ _ HS0.out (fun hHeld => ?_)
        clear hK KC
        refine take_v (v := ?_) 26 ⟨some 79, Op.unOp UnOp.not 4 (Operand.tmp 78), _, _, _, some (17, false)⟩ rfl (fun _ _ _ h => h) ?_ hHeld ?_
        rotate_left
        · (intro W _; go_simp <;> (try with_reducible rfl))
        refine take_v (v := ?_) 27 ⟨some 80, Op.pick (Operand.tmp 70) (Operand.const (Value.bool true)) (Operand.tmp 79), _, _, _, none⟩ rfl (fun _ _ _ h => h) ?_ hHeld ?_
        rotate_left
        · (intro W _; go_simp <;> (try with_reducible rfl))
        refine take_v (v := ?_) 28 ⟨some 81, Op.move (Operand.tmp 80), _, _, _, none⟩ rfl (fun _ _ _ h => h) ?_ hHeld ?_
        rotate_left
        · (intro W _; go_simp <;> (try with_reducible rfl))
        refine take_v (v := ?_) 29 ⟨some 82, Op.move (Operand.tmp 4), _, _, _, some (28, false)⟩ rfl (fun _ _ _ h => h) ?_ hHeld ?_
        rotate_left
        · (intro W _; go_simp <;> (try with_reducible rfl))
        refine take_v (v := ?_) 30 ⟨some 83, Op.fieldAddr 28 (Operand.tmp 1) 3, _, _, _, some (28, false)⟩ rfl (fun _ _ _ h => h) ?_ hHeld ?_
        rotate_left
        · (intro W _; go_simp <;> (try with_reducible rfl))
        refine take_v (v := ?_) 31 ⟨some 84, Op.load 3 (Operand.tmp 83), _, _, _, some (28, false)⟩ rfl (fun _ _ _ h => h) ?_ hHeld ?_
        rotate_left
        · (intro W hSW; (have s0 := hSW.1.cell 0 rfl; have s1 := hSW.1.cell 1 rfl; have s2 := hSW.1.cell 2 rfl; have s3 := hSW.1.cell 3 rfl; have s4 := hSW.1.cell 4 rfl; have s5 := hSW.1.cell 5 rfl; have sz := hSW.1.2; have sc := hSW.2.1; have sk9 := hSW.2.2.1; have z1 := hSW.2.2.2.1; have z2 := hSW.2.2.2.2); go_simp <;> (try with_reducible rfl))
        refine take_v (v := ?_) 32 ⟨some 85, Op.binOp BinOp.neq 3 (Operand.tmp 82) (Operand.tmp 84) 3, _, _, _, some (28, false)⟩ rfl (fun _ _ _ h => h) ?_ hHeld ?_
        rotate_left
        · (intro W _; go_simp <;> (try with_reducible rfl))
        refine take_v (v := ?_) 33 ⟨some 86, Op.move (Operand.tmp 85), _, _, _, some (28, false)⟩ rfl (fun _ _ _ h => h) ?_ hHeld ?_
        rotate_left
        · (intro W _; go_simp <;> (try with_reducible rfl))
        refine take_v (v := ?_) 34 ⟨some 87, Op.fieldAddr 28 (Operand.tmp 1) 5, _, _, _, some (33, true)⟩ rfl (fun _ _ _ h => h) ?_ hHeld ?_
        rotate_left
        · (intro W _; go_simp <;> (try with_reducible rfl))
        refine take_v (v := ?_) 35 ⟨some 88, Op.load 26 (Operand.tmp 87), _, _, _, some (33, true)⟩ rfl (fun _ _ _ h => h) ?_ hHeld ?_
        rotate_left
        · (intro W hSW; (have s0 := hSW.1.cell 0 rfl; have s1 := hSW.1.cell 1 rfl; have s2 := hSW.1.cell 2 rfl; have s3 := hSW.1.cell 3 rfl; have s4 := hSW.1.cell 4 rfl; have s5 := hSW.1.cell 5 rfl; have sz := hSW.1.2; have sc := hSW.2.1; have sk9 := hSW.2.2.1; have z1 := hSW.2.2.2.1; have z2 := hSW.2.2.2.2); go_simp <;> (try with_reducible rfl))
        refine take_v (v := ?_) 36 ⟨some 89, Op.move (Operand.tmp 4), _, _, _, some (33, true)⟩ rfl (fun _ _ _ h => h) ?_ hHeld ?_
        rotate_left
        · (intro W _; go_simp <;> (try with_reducible rfl))
        refine take_v (v := ?_) 37 ⟨some 90, Op.indexAddr 26 (Operand.tmp 88) (Operand.tmp 89), _, _, _, some (33, true)⟩ rfl (fun _ _ _ h => h) ?_ hHeld ?_
        rotate_left
        · (intro W _; go_simp <;> (try with_reducible rfl))
        refine take_v (v := ?_) 38 ⟨some 91, Op.load 3 (Operand.tmp 90), _, _, _, some (33, true)⟩ rfl (fun _ _ _ h => h) ?_ hHeld ?_
        rotate_left
        · (intro W hSW; (have s0 := hSW.1.cell 0 rfl; have s1 := hSW.1.cell 1 rfl; have s2 := hSW.1.cell 2 rfl; have s3 := hSW.1.cell 3 rfl; have s4 := hSW.1.cell 4 rfl; have s5 := hSW.1.cell 5 rfl; have sz := hSW.1.2; have sc := hSW.2.1; have sk9 := hSW.2.2.1; have z1 := hSW.2.2.2.1; have z2 := hSW.2.2.2.2); go_simp <;> (try with_reducible rfl))
        refine take_v (v := ?_) 39 ⟨some 92, Op.fieldAddr 28 (Operand.tmp 1) 1, _, _, _, some (33, true)⟩ rfl (fun _ _ _ h => h) ?_ hHeld ?_
        rotate_left
        · (intro W _; go_simp <;> (try with_reducible rfl))
        refine take_v (v := ?_) 40 ⟨some 93, Op.load 3 (Operand.tmp 92), _, _, _, some (33, true)⟩ rfl (fun _ _ _ h => h) ?_ hHeld ?_
        rotate_left
        · (intro W hSW; (have s0 := hSW.1.cell 0 rfl; have s1 := hSW.1.cell 1 rfl; have s2 := hSW.1.cell 2 rfl; have s3 := hSW.1.cell 3 rfl; have s4 := hSW.1.cell 4 rfl; have s5 := hSW.1.cell 5 rfl; have sz := hSW.1.2; have sc := hSW.2.1; have sk9 := hSW.2.2.1; have z1 := hSW.2.2.2.1; have z2 := hSW.2.2.2.2); go_simp <;> (try with_reducible rfl))
        refine take_v (v := ?_) 41 ⟨some 94, Op.binOp BinOp.gtr 3 (Operand.tmp 91) (Operand.tmp 93) 3, _, _, _, some (33, true)⟩ rfl (fun _ _ _ h => h) ?_ hHeld ?_
        rotate_left
        · (intro W _; go_simp <;> (try with_reducible rfl))
        refine take_v (v := ?_) 42 ⟨some 95, Op.pick (Operand.tmp 86) (Operand.tmp 94) (Operand.const (Value.bool false)), _, _, _, some (28, false)⟩ rfl (fun _ _ _ h => h) ?_ hHeld ?_
        rotate_left
        · (intro W _; go_simp <;> (try with_reducible rfl))
        refine take_v (v := ?_) 43 ⟨some 96, Op.pick (Operand.tmp 81) (Operand.const (Value.bool true)) (Operand.tmp 95), _, _, _, none⟩ rfl (fun _ _ _ h => h) ?_ hHeld ?_
        rotate_left
        · (intro W _; go_simp <;> (try with_reducible rfl))
        refine wpAnyH_done (by kernel_rfl) ?_ _
        refine NoPanic.normal ?_
        clear hHeld
        go_wp2
        go_roundw
        case rel => exact ⟨k + 1, by omega, by go_num, or_upto HA.out.1 HN.out, HBX.out, HB2.out⟩
        case measure => simp [intOf]; omega
    · have hkn : k = m := by omega
      subst hkn
      have s0 := (hbx).cell 0 rfl; have s1 := (hbx).cell 1 rfl; have s2 := (hbx).cell 2 rfl; have s3 := (hbx).cell 3 rfl; have s4 := (hbx).cell 4 rfl; have s5 := (hbx).cell 5 rfl; have sz := (hbx).2
      clear hbx hBr
      go_wp2
      go_ret
      exact ⟨good_yes (HFIN.out HA.out.1), HA.out.2.2⟩

end Go.Proofs.Ytidalpgkljafdaa
