/- Nets: whether a way's parcels have a mark; where a way stands. -/
import Derived.Test.YtcklpcdgckkahaaNeA
import Derived.Laws.StructEq
namespace Go.Proofs.Ytcklpcdgckkahaa
open Go.RowKit
set_option linter.unusedVariables false
set_option linter.unusedSimpArgs false

def parE (b : Bool) (n : Int) (b' : Bool) (n' : Int) : Bool := b == b' && n == n'
set_option maxHeartbeats 1000000 in
theorem run_eqParcel (e : Bool) (s : Int) (e' : Bool) (s' : Int) (w : World) :
    (binOp .eql 85 (.agg #[.bool e, .int .i64 s]) (.agg #[.bool e', .int .i64 s'])).run Try.prog w = .ok (.bool (parE e s e' s')) w := by
  have u1 := Try.underlying3
  have u2 := Try.underlying4
  have hS : Try.prog.underlying 85 = some (.struct (Try.prog.fieldsOf 85)) := by kernel_rfl
  have hp : Try.prog.stoodInHeld 85 = false := by kernel_rfl
  have p0 : (Go.part 4 #[.bool e, .int .i64 s] 0).run Try.prog w = .ok (.bool e) w := by kernel_rfl
  have p1 : (Go.part 3 #[.bool e, .int .i64 s] 1).run Try.prog w = .ok (.int .i64 s) w := by kernel_rfl
  have q0 : (Go.part 4 #[.bool e', .int .i64 s'] 0).run Try.prog w = .ok (.bool e') w := by kernel_rfl
  have q1 : (Go.part 3 #[.bool e', .int .i64 s'] 1).run Try.prog w = .ok (.int .i64 s') w := by kernel_rfl
  rw [run_eql_struct, show (10000 : Nat) = 9998 + 2 from rfl, run_equalIn_agg w 9999 _ _ _ hS hp]
  simp only [Program.fieldsOf, Try.underlying85]
  simp only [Op.eqFields, Sem.run_bind, Sem.run_ite, p0, p1, q0, q1, Result.andThen_ok, run_equalIn_int w 9998 3 .i64 .i64 _ _ u1, run_equalIn_bool w 9998 4 _ _ u2]
  cases h0 : e == e' <;> cases h1 : s == s' <;> simp [parE, h0, h1]
/-- The mark as the program holds it. -/
def isMk (p : Sh.T shParcel) : Prop := pmk p = true ∧ pam p = 0
theorem hasM_iff {ps : List (Sh.T shParcel)} (h : ∀ p ∈ ps, parP p) : hasM ps = true ↔ ∃ p ∈ ps, isMk p := by
  unfold hasM marks
  rw [decide_eq_true_iff, List.countP_pos_iff]
  constructor
  · rintro ⟨p, hp, hk⟩; exact ⟨p, hp, hk, (h p hp).1 hk⟩
  · rintro ⟨p, hp, hk⟩; exact ⟨p, hp, hk.1⟩
set_option maxRecDepth 100000 in
set_option maxHeartbeats 2000000 in
theorem indexParcel_n (a : Option Addr) (cap : Nat) (ps : List (Sh.T shParcel)) (w : World) (hn : ps.length ≤ 1073741824) (h : Lies w (.list shParcel) [.slice a ps.length cap] ps) :
    Calls Try.prog 99 #[.slice a ps.length cap, .agg #[.bool true, .int .i64 0]] w fun r w' => (∃ x : Int, r = .returned (.int .i64 x) ∧ (0 ≤ x ↔ ∃ p ∈ ps, isMk p)) ∧ Below w.heap.size w w' := by
  have HL := Hid.intro h
  clear h
  have HB0 : Hid (Bx (w.alloc (.cells #[.bool true, .int .i64 0] 85)) w.heap.size [.bool true, .int .i64 0] ∧ Below w.heap.size w (w.alloc (.cells #[.bool true, .int .i64 0] 85))) := ⟨Bx.new w [_, _] _, Go.Joins.below_alloc1 _ _⟩
  go_enter Try.func99, Try.ntmps99
  go_wp2
  go_loopw [8] (fun i wr => ∃ k : Nat, k ≤ ps.length ∧ i = .int .i64 k ∧ (∀ o ∈ ps.take k, ¬ isMk o) ∧ Bx wr w.heap.size [.bool true, .int .i64 0] ∧ Below w.heap.size w wr) (fun i _ => ps.length - (intOf i).toNat)
  case atStart => exact ⟨0, Nat.zero_le _, rfl, fun o ho => by simp at ho, HB0.out.1, HB0.out.2⟩
  case round =>
    obtain ⟨k, hk, rfl, hno, hbx, hBr⟩ := hrel
    have HO := Hid.intro hno
    have HB : Hid (Bx wr w.heap.size [.bool true, .int .i64 0] ∧ Below w.heap.size w wr) := ⟨hbx, hBr⟩
    clear hno hBr HB0
    have s0 := (hbx).cell 0 rfl; have s1 := (hbx).cell 1 rfl; have sz := (hbx).2
    clear hbx
    by_cases hlt : k < ps.length
    · have hlt' : (k : Int) < (ps.length : Int) := by omega
      have HLE : Hid (Lies wr (.list shParcel) [.slice a ps.length cap] ps) := HL.out.next HB.out.2
      obtain ⟨xg, xoff, xgo, xgs, xec, xel, xhec, xle⟩ := Lies.elem (HLE.out) hlt
      subst xgo
      rcases xX : ps[k] with ⟨x0, x1, ⟨⟩⟩
      rw [xX] at xle
      have xH : Hid (ps[k] = (x0, x1, ())) := xX
      clear xX
      obtain xev := lies_Parcel xle
      subst xev
      have xc0 : wr.cell? ⟨xg, xoff + k * 2, none⟩ = some (.bool x0) := xhec 0 (by simp)
      have xc1 : wr.cell? ⟨xg, xoff + k * 2 + 1, none⟩ = some (.int .i64 x1) := xhec 1 (by simp)
      clear xhec xel xle
      have HX : Hid (ps[k] = mkPc x0 x1) := xH
      have HMEM : Hid (ps[k] ∈ ps) := Hid.intro (List.getElem_mem hlt)
      clear HLE xH
      obtain ⟨y, hy⟩ : ∃ y : Int, y = x1 := ⟨_, rfl⟩
      subst hy
      cases x0
      · have HS : Hid (¬ isMk ps[k]) := Hid.intro (by rw [HX.out]; exact fun q => by cases q.1)
        have HBd : Hid (Bx wr.drew w.heap.size [.bool true, .int .i64 0] ∧ Below w.heap.size w wr.drew ∧ wr.drew.cell? ⟨xg, xoff + k * 2, none⟩ = some (.bool false) ∧ wr.drew.cell? ⟨xg, xoff + k * 2 + 1, none⟩ = some (.int .i64 y)) := ⟨HB.out.1.next (below_drew _), below_next HB.out.2 (below_drew _), xc0, xc1⟩
        have he : parE true 0 false y = false := rfl
        have hr := fun W => run_eqParcel true 0 false y W
        clear s0 s1 sz xc0 xc1
        go_upto_region 4 with fail
        refine wp_region_noPanic ?_
        refine wp_region_held_drew (S := fun W => Bx W w.heap.size [.bool true, .int .i64 0] ∧ W.cell? ⟨xg, xoff + k * 2, none⟩ = some (.bool false) ∧ W.cell? ⟨xg, xoff + k * 2 + 1, none⟩ = some (.int .i64 y)) (by kernel_rfl) ⟨HBd.out.1, HBd.out.2.2⟩ (fun hHeld => ?_)
        refine take_v (v := ?_) 0 ⟨some 11, Op.load 85 (Operand.tmp 3), _, _, _, none⟩ rfl (fun _ _ _ h => h) ?_ hHeld ?_
        rotate_left
        · (intro W hSW; (have s0 := hSW.1.cell 0 rfl; have s1 := hSW.1.cell 1 rfl; have sz := hSW.1.2; have s2 := hSW.2.1; have s3 := hSW.2.2); go_simp <;> (try with_reducible rfl))
        refine take_v (v := ?_) 1 ⟨some 12, Op.move (Operand.tmp 0), _, _, _, none⟩ rfl (fun _ _ _ h => h) ?_ hHeld ?_
        rotate_left
        · (intro W _; go_simp <;> (try with_reducible rfl))
        refine take_v (v := ?_) 2 ⟨some 13, Op.move (Operand.tmp 5), _, _, _, none⟩ rfl (fun _ _ _ h => h) ?_ hHeld ?_
        rotate_left
        · (intro W _; go_simp <;> (try with_reducible rfl))
        refine take_v (v := ?_) 3 ⟨some 14, Op.indexAddr 81 (Operand.tmp 12) (Operand.tmp 13), _, _, _, none⟩ rfl (fun _ _ _ h => h) ?_ hHeld ?_
        rotate_left
        · (intro W _; go_simp <;> (try with_reducible rfl))
        refine take_v (v := ?_) 4 ⟨some 15, Op.load 85 (Operand.tmp 14), _, _, _, none⟩ rfl (fun _ _ _ h => h) ?_ hHeld ?_
        rotate_left
        · (intro W hSW; (have s0 := hSW.1.cell 0 rfl; have s1 := hSW.1.cell 1 rfl; have sz := hSW.1.2; have s2 := hSW.2.1; have s3 := hSW.2.2); go_simp <;> (try with_reducible rfl))
        refine take_v (v := ?_) 5 ⟨some 16, Op.binOp BinOp.eql 85 (Operand.tmp 11) (Operand.tmp 15) 85, _, _, _, none⟩ rfl (fun _ _ _ h => h) ?_ hHeld ?_
        rotate_left
        · (intro W _; go_simp <;> (try with_reducible rfl))
        refine wpAnyH_done (by kernel_rfl) ?_ _
        refine NoPanic.normal ?_
        clear hHeld he hr
        go_wp2
        go_roundw
        case rel => exact ⟨k + 1, by omega, by go_num, mem_take_succ hlt HO.out HS.out, HBd.out.1, HBd.out.2.1⟩
        case measure => simp [intOf]; omega
      · by_cases c : y = 0
        · have HS : Hid (0 ≤ (k : Int) ↔ ∃ p ∈ ps, isMk p) := Hid.intro ⟨fun _ => ⟨ps[k], HMEM.out, by rw [HX.out]; exact ⟨rfl, c⟩⟩, fun _ => by omega⟩
          subst c
          have HBd : Hid (Bx wr.drew w.heap.size [.bool true, .int .i64 0] ∧ Below w.heap.size w wr.drew ∧ wr.drew.cell? ⟨xg, xoff + k * 2, none⟩ = some (.bool true) ∧ wr.drew.cell? ⟨xg, xoff + k * 2 + 1, none⟩ = some (.int .i64 0)) := ⟨HB.out.1.next (below_drew _), below_next HB.out.2 (below_drew _), xc0, xc1⟩
          have he : parE true 0 true 0 = true := rfl
          have hr := fun W => run_eqParcel true 0 true 0 W
          clear s0 s1 sz xc0 xc1
          go_upto_region 4 with fail
          refine wp_region_noPanic ?_
          refine wp_region_held_drew (S := fun W => Bx W w.heap.size [.bool true, .int .i64 0] ∧ W.cell? ⟨xg, xoff + k * 2, none⟩ = some (.bool true) ∧ W.cell? ⟨xg, xoff + k * 2 + 1, none⟩ = some (.int .i64 0)) (by kernel_rfl) ⟨HBd.out.1, HBd.out.2.2⟩ (fun hHeld => ?_)
          refine take_v (v := ?_) 0 ⟨some 11, Op.load 85 (Operand.tmp 3), _, _, _, none⟩ rfl (fun _ _ _ h => h) ?_ hHeld ?_
          rotate_left
          · (intro W hSW; (have s0 := hSW.1.cell 0 rfl; have s1 := hSW.1.cell 1 rfl; have sz := hSW.1.2; have s2 := hSW.2.1; have s3 := hSW.2.2); go_simp <;> (try with_reducible rfl))
          refine take_v (v := ?_) 1 ⟨some 12, Op.move (Operand.tmp 0), _, _, _, none⟩ rfl (fun _ _ _ h => h) ?_ hHeld ?_
          rotate_left
          · (intro W _; go_simp <;> (try with_reducible rfl))
          refine take_v (v := ?_) 2 ⟨some 13, Op.move (Operand.tmp 5), _, _, _, none⟩ rfl (fun _ _ _ h => h) ?_ hHeld ?_
          rotate_left
          · (intro W _; go_simp <;> (try with_reducible rfl))
          refine take_v (v := ?_) 3 ⟨some 14, Op.indexAddr 81 (Operand.tmp 12) (Operand.tmp 13), _, _, _, none⟩ rfl (fun _ _ _ h => h) ?_ hHeld ?_
          rotate_left
          · (intro W _; go_simp <;> (try with_reducible rfl))
          refine take_v (v := ?_) 4 ⟨some 15, Op.load 85 (Operand.tmp 14), _, _, _, none⟩ rfl (fun _ _ _ h => h) ?_ hHeld ?_
          rotate_left
          · (intro W hSW; (have s0 := hSW.1.cell 0 rfl; have s1 := hSW.1.cell 1 rfl; have sz := hSW.1.2; have s2 := hSW.2.1; have s3 := hSW.2.2); go_simp <;> (try with_reducible rfl))
          refine take_v (v := ?_) 5 ⟨some 16, Op.binOp BinOp.eql 85 (Operand.tmp 11) (Operand.tmp 15) 85, _, _, _, none⟩ rfl (fun _ _ _ h => h) ?_ hHeld ?_
          rotate_left
          · (intro W _; go_simp <;> (try with_reducible rfl))
          refine wpAnyH_done (by kernel_rfl) ?_ _
          refine NoPanic.normal ?_
          clear hHeld he hr
          go_wp2
          go_ret
          exact ⟨⟨_, rfl, HS.out⟩, HBd.out.2.1⟩
        · have HS : Hid (¬ isMk ps[k]) := Hid.intro (by rw [HX.out]; exact fun q => c q.2)
          have HBd : Hid (Bx wr.drew w.heap.size [.bool true, .int .i64 0] ∧ Below w.heap.size w wr.drew ∧ wr.drew.cell? ⟨xg, xoff + k * 2, none⟩ = some (.bool true) ∧ wr.drew.cell? ⟨xg, xoff + k * 2 + 1, none⟩ = some (.int .i64 y)) := ⟨HB.out.1.next (below_drew _), below_next HB.out.2 (below_drew _), xc0, xc1⟩
          have he : parE true 0 true y = false := by simp [parE]; omega
          have hr := fun W => run_eqParcel true 0 true y W
          clear s0 s1 sz xc0 xc1
          go_upto_region 4 with fail
          refine wp_region_noPanic ?_
          refine wp_region_held_drew (S := fun W => Bx W w.heap.size [.bool true, .int .i64 0] ∧ W.cell? ⟨xg, xoff + k * 2, none⟩ = some (.bool true) ∧ W.cell? ⟨xg, xoff + k * 2 + 1, none⟩ = some (.int .i64 y)) (by kernel_rfl) ⟨HBd.out.1, HBd.out.2.2⟩ (fun hHeld => ?_)
          refine take_v (v := ?_) 0 ⟨some 11, Op.load 85 (Operand.tmp 3), _, _, _, none⟩ rfl (fun _ _ _ h => h) ?_ hHeld ?_
          rotate_left
          · (intro W hSW; (have s0 := hSW.1.cell 0 rfl; have s1 := hSW.1.cell 1 rfl; have sz := hSW.1.2; have s2 := hSW.2.1; have s3 := hSW.2.2); go_simp <;> (try with_reducible rfl))
          refine take_v (v := ?_) 1 ⟨some 12, Op.move (Operand.tmp 0), _, _, _, none⟩ rfl (fun _ _ _ h => h) ?_ hHeld ?_
          rotate_left
          · (intro W _; go_simp <;> (try with_reducible rfl))
          refine take_v (v := ?_) 2 ⟨some 13, Op.move (Operand.tmp 5), _, _, _, none⟩ rfl (fun _ _ _ h => h) ?_ hHeld ?_
          rotate_left
          · (intro W _; go_simp <;> (try with_reducible rfl))
          refine take_v (v := ?_) 3 ⟨some 14, Op.indexAddr 81 (Operand.tmp 12) (Operand.tmp 13), _, _, _, none⟩ rfl (fun _ _ _ h => h) ?_ hHeld ?_
          rotate_left
          · (intro W _; go_simp <;> (try with_reducible rfl))
          refine take_v (v := ?_) 4 ⟨some 15, Op.load 85 (Operand.tmp 14), _, _, _, none⟩ rfl (fun _ _ _ h => h) ?_ hHeld ?_
          rotate_left
          · (intro W hSW; (have s0 := hSW.1.cell 0 rfl; have s1 := hSW.1.cell 1 rfl; have sz := hSW.1.2; have s2 := hSW.2.1; have s3 := hSW.2.2); go_simp <;> (try with_reducible rfl))
          refine take_v (v := ?_) 5 ⟨some 16, Op.binOp BinOp.eql 85 (Operand.tmp 11) (Operand.tmp 15) 85, _, _, _, none⟩ rfl (fun _ _ _ h => h) ?_ hHeld ?_
          rotate_left
          · (intro W _; go_simp <;> (try with_reducible rfl))
          refine wpAnyH_done (by kernel_rfl) ?_ _
          refine NoPanic.normal ?_
          clear hHeld he hr
          go_wp2
          go_roundw
          case rel => exact ⟨k + 1, by omega, by go_num, mem_take_succ hlt HO.out HS.out, HBd.out.1, HBd.out.2.1⟩
          case measure => simp [intOf]; omega
    · have hkn : k = ps.length := by omega
      have HS : Hid (0 ≤ (-1 : Int) ↔ ∃ p ∈ ps, isMk p) := Hid.intro ⟨fun q => absurd q (by decide), fun ⟨p, hp, q⟩ => absurd q (HO.out p (by rw [hkn, List.take_length]; exact hp))⟩
      go_wp2
      go_ret
      exact ⟨⟨_, rfl, HS.out⟩, HB.out.2⟩
set_option maxRecDepth 100000 in
set_option maxHeartbeats 1000000 in
theorem containsParcel_n (a : Option Addr) (cap : Nat) (ps : List (Sh.T shParcel)) (w : World) (hn : ps.length ≤ 1073741824) (hp : ∀ p ∈ ps, parP p) (h : Lies w (.list shParcel) [.slice a ps.length cap] ps) :
    Calls Try.prog 84 #[.slice a ps.length cap, .agg #[.bool true, .int .i64 0]] w fun r w' => r = .returned (.bool (hasM ps)) ∧ Below w.heap.size w w' := by
  have HQ := Hid.intro (hasM_iff hp)
  have HB0 : Hid (Below w.heap.size w (w.alloc (.cells #[.bool true, .int .i64 0] 85))) := Hid.intro (Go.Joins.below_alloc1 _ _)
  have HL : Hid (Lies (w.alloc (.cells #[.bool true, .int .i64 0] 85)) (.list shParcel) [.slice a ps.length cap] ps) := h.next HB0.out
  clear h hp
  go_enter Try.func84, Try.ntmps84
  go_wp2_with (go_at_call 99; refine (indexParcel_n a cap ps _ hn HL.out).mono ?_; rintro e w' ⟨⟨x, rfl, hx⟩, hb⟩; have HB : Hid (Below w.heap.size w w') := below_next HB0.out hb; clear hb; have HX := Hid.intro (hx.trans HQ.out.symm); clear hx)
  go_ret
  refine ⟨ret_bool ?_, HB.out⟩
  rw [Bool.eq_iff_iff, ← HX.out]
  simp

/-- The program reckons a way's place. -/
theorem plc_no {m : Nat} {f t : Int} (h : ¬ ((0 ≤ f ∧ f ≤ (m : Int) - 1) ∧ (0 ≤ t ∧ t ≤ (m : Int) - 1) ∧ f ≠ t)) : plc m f t = -1 := if_neg h
set_option maxRecDepth 100000 in
set_option maxHeartbeats 1000000 in
theorem placeOf_n (a1 : Option Addr) (m k1 : Nat) (v2 : Value) (f t : Int) (w : World) (hm : 2 ≤ m ∧ m ≤ 5) (h2 : ∃ a2 n k2, v2 = .slice a2 n k2) :
    Calls Try.prog 52 #[.agg #[.slice a1 m k1, v2], .int .i64 f, .int .i64 t] w fun r w' => r = .returned (.int .i64 (plc m f t)) ∧ Below w.heap.size w w' := by
  obtain ⟨a2, n, k2, rfl⟩ := h2
  obtain ⟨hm1, hm2⟩ := hm
  have hw1 : IntKind.i64.wrap ((m : Int) - 1) = (m : Int) - 1 := w64f (by omega) (by omega)
  cases c0 : inR f 0 ((m : Int) - 1)
  · have HN : Hid (plc m f t = -1) := plc_no (fun q => by rw [inR_iff.2 q.1] at c0; cases c0)
    go_enter Try.func52, Try.ntmps52
    go_wp2_with (first | (go_at_call 50; refine (inRange_any _ _ _ _).mono ?_; rintro e w' ⟨rfl, rfl⟩))
    go_ret
    exact ⟨ret_int HN.out.symm, (by repeat (first | refine Below.setCell ?_ (by (try simp) <;> omega) _ | refine Below.alloc ?_ (by (try simp) <;> omega) _ | refine Below.drew ?_ | assumption | exact Below.refl _ _ | refine Below.trans ?_ (Below.mono (by assumption) (by (try simp) <;> omega))))⟩
  have hf := inR_iff.1 c0
  obtain ⟨hf0, hf1⟩ := hf
  cases c1 : inR t 0 ((m : Int) - 1)
  · have HN : Hid (plc m f t = -1) := plc_no (fun q => by rw [inR_iff.2 q.2.1] at c1; cases c1)
    go_enter Try.func52, Try.ntmps52
    go_wp2_with (first | (go_at_call 50; refine (inRange_any _ _ _ _).mono ?_; rintro e w' ⟨rfl, rfl⟩))
    go_ret
    exact ⟨ret_int HN.out.symm, (by repeat (first | refine Below.setCell ?_ (by (try simp) <;> omega) _ | refine Below.alloc ?_ (by (try simp) <;> omega) _ | refine Below.drew ?_ | assumption | exact Below.refl _ _ | refine Below.trans ?_ (Below.mono (by assumption) (by (try simp) <;> omega))))⟩
  have ht := inR_iff.1 c1
  obtain ⟨ht0, ht1⟩ := ht
  by_cases c2 : f = t
  · have HN : Hid (plc m f t = -1) := plc_no (fun q => q.2.2 c2)
    subst c2
    go_enter Try.func52, Try.ntmps52
    go_wp2_with (first | (go_at_call 50; refine (inRange_any _ _ _ _).mono ?_; rintro e w' ⟨rfl, rfl⟩))
    go_ret
    exact ⟨ret_int HN.out.symm, (by repeat (first | refine Below.setCell ?_ (by (try simp) <;> omega) _ | refine Below.alloc ?_ (by (try simp) <;> omega) _ | refine Below.drew ?_ | assumption | exact Below.refl _ _ | refine Below.trans ?_ (Below.mono (by assumption) (by (try simp) <;> omega))))⟩
  have c3 : (f == t) = false := by simpa using c2
  have c4 : (f != t) = true := by simpa using c2
  by_cases c5 : f < t
  · have HN : Hid (plc m f t = f * ((m : Int) - 1) + (t - 1)) := Hid.intro (by unfold plc; rw [if_pos ⟨⟨hf0, hf1⟩, ⟨ht0, ht1⟩, c2⟩, if_pos c5])
    have hmul : 0 ≤ f * ((m : Int) - 1) ∧ f * ((m : Int) - 1) ≤ 16 := ⟨Int.mul_nonneg hf0 (by omega), Int.le_trans (Int.mul_le_mul (show f ≤ 4 by omega) (show (m : Int) - 1 ≤ 4 by omega) (by omega) (by decide)) (by decide)⟩
    obtain ⟨hmul0, hmul1⟩ := hmul
    have hw2 : IntKind.i64.wrap (f * ((m : Int) - 1)) = f * ((m : Int) - 1) := w64f (by omega) (by omega)
    have hw3 : IntKind.i64.wrap (t - 1) = t - 1 := w64f (by omega) (by omega)
    have hw4 : IntKind.i64.wrap (f * ((m : Int) - 1) + (t - 1)) = f * ((m : Int) - 1) + (t - 1) := w64f (by omega) (by omega)
    go_enter Try.func52, Try.ntmps52
    go_wp2_with (first | (go_at_call 50; refine (inRange_any _ _ _ _).mono ?_; rintro e w' ⟨rfl, rfl⟩))
    go_ret
    exact ⟨ret_int HN.out.symm, (by repeat (first | refine Below.setCell ?_ (by (try simp) <;> omega) _ | refine Below.alloc ?_ (by (try simp) <;> omega) _ | refine Below.drew ?_ | assumption | exact Below.refl _ _ | refine Below.trans ?_ (Below.mono (by assumption) (by (try simp) <;> omega))))⟩
  · have HN : Hid (plc m f t = f * ((m : Int) - 1) + t) := Hid.intro (by unfold plc; rw [if_pos ⟨⟨hf0, hf1⟩, ⟨ht0, ht1⟩, c2⟩, if_neg c5])
    have hmul : 0 ≤ f * ((m : Int) - 1) ∧ f * ((m : Int) - 1) ≤ 16 := ⟨Int.mul_nonneg hf0 (by omega), Int.le_trans (Int.mul_le_mul (show f ≤ 4 by omega) (show (m : Int) - 1 ≤ 4 by omega) (by omega) (by decide)) (by decide)⟩
    obtain ⟨hmul0, hmul1⟩ := hmul
    have hw2 : IntKind.i64.wrap (f * ((m : Int) - 1)) = f * ((m : Int) - 1) := w64f (by omega) (by omega)
    have hw4 : IntKind.i64.wrap (f * ((m : Int) - 1) + t) = f * ((m : Int) - 1) + t := w64f (by omega) (by omega)
    go_enter Try.func52, Try.ntmps52
    go_wp2_with (first | (go_at_call 50; refine (inRange_any _ _ _ _).mono ?_; rintro e w' ⟨rfl, rfl⟩))
    go_ret
    exact ⟨ret_int HN.out.symm, (by repeat (first | refine Below.setCell ?_ (by (try simp) <;> omega) _ | refine Below.alloc ?_ (by (try simp) <;> omega) _ | refine Below.drew ?_ | assumption | exact Below.refl _ _ | refine Below.trans ?_ (Below.mono (by assumption) (by (try simp) <;> omega))))⟩
end Go.Proofs.Ytcklpcdgckkahaa
