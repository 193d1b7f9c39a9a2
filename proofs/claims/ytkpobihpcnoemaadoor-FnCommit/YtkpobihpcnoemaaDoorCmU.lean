/- Commits: what is decided, who agrees, who lives, on both sides. Written by tools/mkCmU.py. -/
import Derived.Test.YtkpobihpcnoemaaDoorCmS
namespace Go.Proofs.YtkpobihpcnoemaaDoor
open Go.RowKit
set_option linter.unusedVariables false
set_option linter.unusedSimpArgs false

def deA (ss : List Shd) (dr rc : Int) : Int × Bool := (if goodC ss dr rc = true then decN dr rc else 0, goodC ss dr rc)
def aiA (ss : List Shd) (dr rc : Int) : Bool × Bool := (goodC ss dr rc && agrA ss dr rc, goodC ss dr rc)
def liA (ss : List Shd) (dr rc : Int) : Bool × Bool := (goodC ss dr rc && ss.all livB, goodC ss dr rc)
def DeP (p : Int × Bool) (w : World) (r : Ending) (w' : World) : Prop := r = .returned (.tuple #[.int .i64 p.1, .bool p.2]) ∧ Below w.heap.size w w'
def AiP (p : Bool × Bool) (w : World) (r : Ending) (w' : World) : Prop := r = .returned (.tuple #[.bool p.1, .bool p.2]) ∧ Below w.heap.size w w'
theorem deA_no {ss : List Shd} {dr rc : Int} (h : goodC ss dr rc = false) : deA ss dr rc = (0, false) := by unfold deA; rw [h]; rfl
theorem deA_yes {ss : List Shd} {dr rc : Int} (h : goodC ss dr rc = true) : deA ss dr rc = (decN dr rc, true) := by unfold deA; rw [h]; rfl
theorem aiA_no {ss : List Shd} {dr rc : Int} (h : goodC ss dr rc = false) : aiA ss dr rc = (false, false) := by unfold aiA; rw [h]; rfl
theorem aiA_yes {ss : List Shd} {dr rc : Int} (h : goodC ss dr rc = true) : aiA ss dr rc = (agrA ss dr rc, true) := by unfold aiA; rw [h]; rfl
theorem liA_no {ss : List Shd} {dr rc : Int} (h : goodC ss dr rc = false) : liA ss dr rc = (false, false) := by unfold liA; rw [h]; rfl
theorem liA_yes {ss : List Shd} {dr rc : Int} (h : goodC ss dr rc = true) : liA ss dr rc = (ss.all livB, true) := by unfold liA; rw [h]; rfl
theorem agr_ne {ss : List Shd} {dr rc : Int} (h0 : ¬ rc = 0) (h1 : ¬ rc = decN dr rc) : agrA ss dr rc = false := by unfold agrA; rw [decide_eq_false h0, decide_eq_false h1]; rfl
theorem agr_eq {ss : List Shd} {dr rc : Int} (h : rc = 0 ∨ rc = decN dr rc) : agrA ss dr rc = ss.all (agsB (decN dr rc)) := by
  unfold agrA
  rcases h with h | h
  · rw [decide_eq_true h]; rfl
  · rw [decide_eq_true h, Bool.or_true, Bool.true_and]
def agrH (d h : Int) : Bool := if h = 3 then decide (d = 1) else if h = 4 then decide (d = 2) else true
theorem agrB_up {d h : Int} : agrB d (mkR false h) = agrH d h := by unfold agrB agrH; rw [rdn_mk, rhs_mk, Bool.false_or]
theorem agrB_down {d h : Int} : agrB d (mkR true h) = true := by unfold agrB; rw [rdn_mk]; rfl


set_option maxRecDepth 100000 in
set_option maxHeartbeats 4000000 in
theorem decisionIn_n (v : Value) (hv : ∃ a n k, v = .slice a n k) (dr rc d : Int) (w : World) (hd : decN dr rc = d) : Calls Tryd.prog 40 #[.agg #[v, .int .i64 dr, .int .i64 rc]] w fun r w' => r = .returned (.int .i64 d) ∧ Below w.heap.size w w' := by
  subst hd
  obtain ⟨a, n, k, rfl⟩ := hv
  by_cases h : dr = 0
  · have HN := Hid.intro (decN_0 (rc := rc) h)
    go_enter Tryd.func40, Tryd.ntmps40
    go_wp2
    go_ret
    exact ⟨ret_int HN.out.symm, (by repeat (first | refine Below.setCell ?_ (by (try simp) <;> omega) _ | refine Below.alloc ?_ (by (try simp) <;> omega) _ | refine Below.drew ?_ | assumption | exact Below.refl _ _ | refine Below.trans ?_ (Below.mono (by assumption) (by (try simp) <;> omega))))⟩
  · have HN := Hid.intro (decN_n (rc := rc) h)
    go_enter Tryd.func40, Tryd.ntmps40
    go_wp2
    go_ret
    exact ⟨ret_int HN.out.symm, (by repeat (first | refine Below.setCell ?_ (by (try simp) <;> omega) _ | refine Below.alloc ?_ (by (try simp) <;> omega) _ | refine Below.drew ?_ | assumption | exact Below.refl _ _ | refine Below.trans ?_ (Below.mono (by assumption) (by (try simp) <;> omega))))⟩

set_option maxRecDepth 100000 in
set_option maxHeartbeats 4000000 in
theorem l15Decision_n (v : Value) (hv : ∃ a n k, v = .slice a n k) (dr rc d : Int) (w : World) (hd : decN dr rc = d) : Calls Tryd.prog 64 #[.agg #[v, .int .i64 dr, .int .i64 rc]] w fun r w' => r = .returned (.int .i64 d) ∧ Below w.heap.size w w' := by
  subst hd
  obtain ⟨a, n, k, rfl⟩ := hv
  by_cases h : dr = 0
  · have HN := Hid.intro (decN_0 (rc := rc) h)
    go_enter Tryd.func64, Tryd.ntmps64
    go_wp2
    go_ret
    exact ⟨ret_int HN.out.symm, (by repeat (first | refine Below.setCell ?_ (by (try simp) <;> omega) _ | refine Below.alloc ?_ (by (try simp) <;> omega) _ | refine Below.drew ?_ | assumption | exact Below.refl _ _ | refine Below.trans ?_ (Below.mono (by assumption) (by (try simp) <;> omega))))⟩
  · have HN := Hid.intro (decN_n (rc := rc) h)
    go_enter Tryd.func64, Tryd.ntmps64
    go_wp2
    go_ret
    exact ⟨ret_int HN.out.symm, (by repeat (first | refine Below.setCell ?_ (by (try simp) <;> omega) _ | refine Below.alloc ?_ (by (try simp) <;> omega) _ | refine Below.drew ?_ | assumption | exact Below.refl _ _ | refine Below.trans ?_ (Below.mono (by assumption) (by (try simp) <;> omega))))⟩

set_option maxRecDepth 100000 in
set_option maxHeartbeats 4000000 in
theorem isAgreed_n (h d : Int) (z : Bool) (w : World) (hz : agrH d h = z) : Calls Tryd.prog 41 #[.int .i64 h, .int .i64 d] w fun r w' => r = .returned (.bool z) ∧ w' = w := by
  by_cases h3 : h = 3
  · have HN : Hid (z = decide (d = 1)) := Hid.intro (by rw [← hz]; unfold agrH; rw [if_pos h3])
    by_cases hd : d = 1
    · subst h3; subst hd
      clear hz
      go_enter Tryd.func41, Tryd.ntmps41
      go_wp2
      go_ret
      exact ⟨ret_bool HN.out.symm, rfl⟩
    · subst h3
      clear hz
      go_enter Tryd.func41, Tryd.ntmps41
      go_wp2
      go_ret
      exact ⟨ret_bool (by rw [HN.out]; simp [hd]), rfl⟩
  by_cases h4 : h = 4
  · have HN : Hid (z = decide (d = 2)) := Hid.intro (by rw [← hz]; unfold agrH; rw [if_neg h3, if_pos h4])
    subst h4
    clear hz h3
    by_cases hd : d = 2
    · subst hd
      go_enter Tryd.func41, Tryd.ntmps41
      go_wp2
      go_ret
      exact ⟨ret_bool HN.out.symm, rfl⟩
    · go_enter Tryd.func41, Tryd.ntmps41
      go_wp2
      go_ret
      exact ⟨ret_bool (by rw [HN.out]; simp [hd]), rfl⟩
  have HN : Hid (z = true) := Hid.intro (by rw [← hz]; unfold agrH; rw [if_neg h3, if_neg h4])
  clear hz
  go_enter Tryd.func41, Tryd.ntmps41
  go_wp2
  go_ret
  exact ⟨ret_bool HN.out.symm, rfl⟩

set_option maxRecDepth 100000 in
set_option maxHeartbeats 4000000 in
theorem decisionOf_n (cs : List Value) (ss : List Shd) (dr rc : Int) (w : World) (hz : szD shCommit (ss, dr, rc, ()) ≤ 1073741824) (h : Lies w shCommit cs (ss, dr, rc, ())) :
    Calls Tryd.prog 14 #[.agg cs.toArray] w (DeP (deA ss dr rc) w) := by
  obtain ⟨a1, k1, rfl, h1⟩ := lies_Commit h
  obtain ⟨hn, hr⟩ := cm_sizes hz
  obtain ⟨w0, hw0⟩ : ∃ x, x = w.alloc (.cells #[.slice a1 ss.length k1, .int .i64 dr, .int .i64 rc] 29) := ⟨_, rfl⟩
  have hb0 : Below w.heap.size w w0 := hw0 ▸ Go.Joins.below_alloc1 _ _
  have HB0 : Hid (Bx w0 w.heap.size [.slice a1 ss.length k1, .int .i64 dr, .int .i64 rc] ∧ Below w.heap.size w w0) := ⟨hw0 ▸ Bx.new w [_, _, _] _, hb0⟩
  have HC : Hid (∀ W, Below w0.heap.size w0 W → Calls Tryd.prog 13 #[.agg #[.slice a1 ss.length k1, .int .i64 dr, .int .i64 rc]] W fun r w' => r = .returned (.bool (goodC ss dr rc)) ∧ Below W.heap.size W w') := Hid.intro (fun W hW => goodCommit_n _ ss dr rc W hz ((h.next hb0).next hW))
  have HL := Hid.intro (h1.next hb0)
  have HR := Hid.intro hr
  clear h h1 hr hb0 hz
  go_enter Tryd.func14, Tryd.ntmps14
  go_upto_region 1 with fail
  rw [← hw0]
  clear hw0
  have s0 := (HB0.out.1).cell 0 rfl; have s1 := (HB0.out.1).cell 1 rfl; have s2 := (HB0.out.1).cell 2 rfl; have sz := (HB0.out.1).2
  go_wp2_with fail
  refine (HC.out _ (Below.refl _ _)).mono ?_
  rintro r w1 ⟨rfl, hb⟩
  have HB1 : Hid (Bx w1 w.heap.size [.slice a1 ss.length k1, .int .i64 dr, .int .i64 rc] ∧ Below w.heap.size w w1 ∧ Lies w1 (.list shShard) [.slice a1 ss.length k1] ss) := ⟨HB0.out.1.next hb, below_next HB0.out.2 hb, HL.out.next hb⟩
  clear hb s0 s1 s2 sz HC HB0 HL
  cases e : goodC ss dr rc
  · have HN := Hid.intro (deA_no e)
    clear e
    go_wp2
    go_ret2
    exact ⟨by rw [HN.out]; rfl, HB1.out.2.1⟩
  have HN := Hid.intro (deA_yes e)
  clear e
  have s0 := (HB1.out.1).cell 0 rfl; have s1 := (HB1.out.1).cell 1 rfl; have s2 := (HB1.out.1).cell 2 rfl; have sz := (HB1.out.1).2
  go_wp2_with (go_at_call 40; refine (decisionIn_n _ ⟨_, _, _, rfl⟩ dr rc _ _ rfl).mono ?_; rintro r w2 ⟨rfl, hb⟩; have HB2 : Hid (Below w.heap.size w w2) := below_next HB1.out.2.1 hb; clear hb)
  go_ret2
  exact ⟨by rw [HN.out]; rfl, HB2.out⟩



set_option maxRecDepth 100000 in
set_option maxHeartbeats 4000000 in
theorem livesIn_n (cs : List Value) (ss : List Shd) (dr rc : Int) (w : World) (hz : szD shCommit (ss, dr, rc, ()) ≤ 1073741824) (h : Lies w shCommit cs (ss, dr, rc, ())) :
    Calls Tryd.prog 12 #[.agg cs.toArray] w (AiP (liA ss dr rc) w) := by
  obtain ⟨a1, k1, rfl, h1⟩ := lies_Commit h
  obtain ⟨hn, hr⟩ := cm_sizes hz
  obtain ⟨w0, hw0⟩ : ∃ x, x = w.alloc (.cells #[.slice a1 ss.length k1, .int .i64 dr, .int .i64 rc] 29) := ⟨_, rfl⟩
  have hb0 : Below w.heap.size w w0 := hw0 ▸ Go.Joins.below_alloc1 _ _
  have HB0 : Hid (Bx w0 w.heap.size [.slice a1 ss.length k1, .int .i64 dr, .int .i64 rc] ∧ Below w.heap.size w w0) := ⟨hw0 ▸ Bx.new w [_, _, _] _, hb0⟩
  have HC : Hid (∀ W, Below w0.heap.size w0 W → Calls Tryd.prog 13 #[.agg #[.slice a1 ss.length k1, .int .i64 dr, .int .i64 rc]] W fun r w' => r = .returned (.bool (goodC ss dr rc)) ∧ Below W.heap.size W w') := Hid.intro (fun W hW => goodCommit_n _ ss dr rc W hz ((h.next hb0).next hW))
  have HL := Hid.intro (h1.next hb0)
  have HR := Hid.intro hr
  clear h h1 hr hb0 hz
  go_enter Tryd.func12, Tryd.ntmps12
  go_upto_region 1 with fail
  rw [← hw0]
  clear hw0
  have s0 := (HB0.out.1).cell 0 rfl; have s1 := (HB0.out.1).cell 1 rfl; have s2 := (HB0.out.1).cell 2 rfl; have sz := (HB0.out.1).2
  go_wp2_with fail
  refine (HC.out _ (Below.refl _ _)).mono ?_
  rintro r w1 ⟨rfl, hb⟩
  have HB1 : Hid (Bx w1 w.heap.size [.slice a1 ss.length k1, .int .i64 dr, .int .i64 rc] ∧ Below w.heap.size w w1 ∧ Lies w1 (.list shShard) [.slice a1 ss.length k1] ss) := ⟨HB0.out.1.next hb, below_next HB0.out.2 hb, HL.out.next hb⟩
  clear hb s0 s1 s2 sz HC HB0 HL
  cases e : goodC ss dr rc
  · have HN := Hid.intro (liA_no e)
    clear e
    go_wp2
    go_ret2
    exact ⟨by rw [HN.out]; rfl, HB1.out.2.1⟩
  have HN := Hid.intro (liA_yes e)
  clear e
  have s0 := (HB1.out.1).cell 0 rfl; have s1 := (HB1.out.1).cell 1 rfl; have s2 := (HB1.out.1).cell 2 rfl; have sz := (HB1.out.1).2
  go_wp2_with (go_at_call 42; refine (areAll_isLiving a1 k1 ss _ hn HR.out HB1.out.2.2).mono ?_; rintro e w2 ⟨rfl, hb⟩; have HB2 : Hid (Below w.heap.size w w2) := below_next HB1.out.2.1 hb; clear hb)
  go_ret2
  exact ⟨by rw [HN.out]; rfl, HB2.out⟩

set_option maxRecDepth 100000 in
set_option maxHeartbeats 4000000 in
theorem l15Primary_n (a : Option Addr) (cap : Nat) (l : List Rpl) (w : World) (hn : l.length ≤ 1073741824) (h : Lies w (.list shReplica) [.slice a l.length cap] l) :
    Calls Tryd.prog 62 #[.agg #[.slice a l.length cap]] w fun r w' => r = .returned (.int .i64 (prm (mkS l))) ∧ Below w.heap.size w w' := by
  obtain ⟨w0, hw0⟩ : ∃ x, x = w.alloc (.cells #[.slice a l.length cap] 42) := ⟨_, rfl⟩
  have hb0 : Below w.heap.size w w0 := hw0 ▸ Go.Joins.below_alloc1 _ _
  have HB0 : Hid (Bx w0 w.heap.size [.slice a l.length cap] ∧ Below w.heap.size w w0) := ⟨hw0 ▸ Bx.new w [_] _, hb0⟩
  have HL := Hid.intro (h.next hb0)
  clear hb0 h
  go_enter Tryd.func62, Tryd.ntmps62
  go_upto_region 1 with fail
  rw [← hw0]
  clear hw0
  have s0 := (HB0.out.1).cell 0 rfl; have sz := (HB0.out.1).2
  go_wp2
  clear s0 sz
  go_loopw [8, 3] (fun i u wr => ∃ k : Nat, k ≤ l.length ∧ i = .int .i64 k ∧ (∀ o ∈ l.take k, upB o = false) ∧ Below w0.heap.size w0 wr) (fun i _ _ => l.length - (intOf i).toNat)
  case atStart => exact ⟨0, Nat.zero_le _, rfl, fun o ho => by simp at ho, Below.refl _ _⟩
  case round =>
    obtain ⟨k, hk, rfl, hno, hBr⟩ := hrel
    have HO := Hid.intro hno
    have HB : Hid (Below w0.heap.size w0 wr ∧ Below w.heap.size w wr) := ⟨hBr, below_next HB0.out.2 hBr⟩
    clear hno hBr
    by_cases hlt : k < l.length
    · have hlt' : (k : Int) < (l.length : Int) := by omega
      have HLE : Hid (Lies wr (.list shReplica) [.slice a l.length cap] l) := HL.out.next HB.out.1
      obtain ⟨xg, xoff, xgo, xgs, xec, xel, xhec, xle⟩ := Lies.elem (HLE.out) hlt
      subst xgo
      rcases xX : l[k] with ⟨x0, x1, ⟨⟩⟩
      rw [xX] at xle
      have xH : Hid (l[k] = (x0, x1, ())) := xX
      clear xX
      obtain xev := lies_Replica xle
      subst xev
      have xc0 : wr.cell? ⟨xg, xoff + k * 2, none⟩ = some (.bool x0) := xhec 0 (by simp)
      have xc1 : wr.cell? ⟨xg, xoff + k * 2 + 1, none⟩ = some (.int .i64 x1) := xhec 1 (by simp)
      clear xhec xel xle
      have HX : Hid (l[k] = mkR x0 x1) := xH
      have HB1 : Hid (Below w0.heap.size w0 (wr.alloc (.cells #[.bool x0, .int .i64 x1] 44)) ∧ Below w.heap.size w (wr.alloc (.cells #[.bool x0, .int .i64 x1] 44))) := ⟨HB.out.1.alloc HB.out.1.size _, HB.out.2.alloc HB.out.2.size _⟩
      clear HLE xH
      cases x0
      · have HS : Hid (prm (mkS l) = k) := Hid.intro (idxN_at hlt HO.out (by rw [HX.out]; rfl)).1
        go_wp2
        go_ret
        exact ⟨ret_int HS.out.symm, HB1.out.2⟩
      · have HS : Hid (upB l[k] = false) := Hid.intro (by rw [HX.out]; rfl)
        go_wp2
        go_roundw
        case rel => exact ⟨k + 1, by omega, by go_num, mem_take_succ hlt HO.out HS.out, HB1.out.1⟩
        case measure => simp [intOf]; omega
    · have HS : Hid (prm (mkS l) = -1) := Hid.intro (idxN_none (any_none (by have := HO.out; rwa [show k = l.length by omega, List.take_length] at this)))
      go_wp2
      go_ret
      exact ⟨ret_int HS.out.symm, HB.out.2⟩
theorem livB_iff {l : List Rpl} : livB (mkS l) = true ↔ 0 ≤ prm (mkS l) := idxN_pos.symm



end Go.Proofs.YtkpobihpcnoemaaDoor
