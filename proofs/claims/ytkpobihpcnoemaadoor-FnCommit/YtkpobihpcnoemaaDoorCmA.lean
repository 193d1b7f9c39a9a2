/- Commits: the program's tests of replicas and shards. Written by tools/mkCmA.py. -/
import Derived.Test.YtkpobihpcnoemaaDoorGaE
import Derived.Test.YtkpobihpcnoemaaDoorBx
import Derived.Test.YtkpobihpcnoemaaDoorGaC
import Derived.Test.YtkpobihpcnoemaaDoorProg
import Derived.WalkKit
import Derived.WalkSpells
import Derived.WalkLawsBesides
import Derived.Deep.QuietTactic
import Derived.BigQuiet
import Derived.Deep.RegionWith
import Derived.Deep.DeepCutAuto
namespace Go.Proofs.YtkpobihpcnoemaaDoor
open Go.RowKit
set_option linter.unusedVariables false
set_option linter.unusedSimpArgs false

theorem ret_int {a b : Int} (h : a = b) : Ending.returned (.int .i64 a) = .returned (.int .i64 b) := by rw [h]

set_option maxRecDepth 100000 in
set_option maxHeartbeats 2000000 in
theorem hasUnknown_n (d : Bool) (h : Int) (z : Bool) (w : World) (hz : unkB (mkR d h) = z) :
    Calls Tryd.prog 67 #[.agg #[.bool d, .int .i64 h]] w fun r w' => r = .returned (.bool z) ∧ Below w.heap.size w w' := by
  subst hz
  go_enter Tryd.func67, Tryd.ntmps67
  go_wp2_with (go_at_call 45; refine (inRange_any _ _ _ _).mono ?_; rintro e w' ⟨rfl, rfl⟩)
  go_ret
  exact ⟨rfl, (by repeat (first | refine Below.setCell ?_ (by (try simp) <;> omega) _ | refine Below.alloc ?_ (by (try simp) <;> omega) _ | refine Below.drew ?_ | assumption | exact Below.refl _ _ | refine Below.trans ?_ (Below.mono (by assumption) (by (try simp) <;> omega))))⟩

set_option maxRecDepth 100000 in
set_option maxHeartbeats 2000000 in
theorem isUp_n (d : Bool) (h : Int) (z : Bool) (w : World) (hz : upB (mkR d h) = z) :
    Calls Tryd.prog 77 #[.agg #[.bool d, .int .i64 h]] w fun r w' => r = .returned (.bool z) ∧ Below w.heap.size w w' := by
  subst hz
  go_enter Tryd.func77, Tryd.ntmps77
  go_wp2
  go_ret
  exact ⟨rfl, (by repeat (first | refine Below.setCell ?_ (by (try simp) <;> omega) _ | refine Below.alloc ?_ (by (try simp) <;> omega) _ | refine Below.drew ?_ | assumption | exact Below.refl _ _ | refine Below.trans ?_ (Below.mono (by assumption) (by (try simp) <;> omega))))⟩

set_option maxRecDepth 100000 in
set_option maxHeartbeats 2000000 in
theorem index_hasUnknown (a : Option Addr) (cap : Nat) (l : List Rpl) (w : World) (hn : l.length ≤ 1073741824) (h : Lies w (.list shReplica) [.slice a l.length cap] l) :
    Calls Tryd.prog 76 #[.slice a l.length cap, .func (.func 67) #[] #[]] w fun r w' => r = .returned (.int .i64 (idxN unkB l)) ∧ Below w.heap.size w w' := by
  have HL := Hid.intro h
  clear h
  go_enter Tryd.func76, Tryd.ntmps76
  go_wp2
  go_loopw [8] (fun i wr => ∃ k : Nat, k ≤ l.length ∧ i = .int .i64 k ∧ (∀ o ∈ l.take k, unkB o = false) ∧ Below w.heap.size w wr) (fun i _ => l.length - (intOf i).toNat)
  case atStart => exact ⟨0, Nat.zero_le _, rfl, fun o ho => by simp at ho, Below.refl _ _⟩
  case round =>
    obtain ⟨k, hk, rfl, hno, hBr⟩ := hrel
    have HO := Hid.intro hno
    have HB := Hid.intro hBr
    clear hno hBr
    by_cases hlt : k < l.length
    · have hlt' : (k : Int) < (l.length : Int) := by omega
      have HLE : Hid (Lies wr (.list shReplica) [.slice a l.length cap] l) := HL.out.next HB.out
      obtain ⟨xg, xoff, xgo, xgs, xec, xel, xhec, xle⟩ := Lies.elem (HLE.out) hlt
      subst xgo
      rcases xX : l[k] with ⟨x0, x1, ⟨⟩⟩
      rw [xX] at xle
      have xH : Hid (l[k] = (x0, x1, ())) := xX
      clear xX
      obtain xev := lies_Replica xle
      subst xev
      have xc0 : wr.cell? ⟨xg, xoff + k * 2, none⟩ = some (.bool x0) := xhec 0 (by simp)
      have xc1 : wr.cell? ⟨xg, xoff + k * 2 + 1, none⟩ = some (.int .i64 x1) := xhec 1 (by simp)
      clear xhec xel xle
      have HX : Hid (l[k] = mkR x0 x1) := xH
      clear HLE xH
      cases hp : unkB (mkR x0 x1)
      · have HS : Hid (unkB l[k] = false) := Hid.intro (by rw [HX.out]; exact hp)
        have HP := Hid.intro hp
        clear hp
        go_wp2_with (go_at_call 67; refine (hasUnknown_n x0 x1 false _ HP.out).mono ?_; rintro e w2 ⟨rfl, hb⟩; have HB2 : Hid (Below w.heap.size w w2) := below_next HB.out hb; clear hb)
        go_roundw
        case rel => exact ⟨k + 1, by omega, by go_num, mem_take_succ hlt HO.out HS.out, HB2.out⟩
        case measure => simp [intOf]; omega
      · have HS : Hid (idxN unkB l = k) := Hid.intro (idxN_at hlt HO.out (by rw [HX.out]; exact hp)).1
        have HP := Hid.intro hp
        clear hp
        go_wp2_with (go_at_call 67; refine (hasUnknown_n x0 x1 true _ HP.out).mono ?_; rintro e w2 ⟨rfl, hb⟩; have HB2 : Hid (Below w.heap.size w w2) := below_next HB.out hb; clear hb)
        go_ret
        exact ⟨ret_int HS.out.symm, HB2.out⟩
    · have hkn : k = l.length := by omega
      have HS : Hid (idxN unkB l = -1) := Hid.intro (idxN_none (any_none (by have := HO.out; rwa [hkn, List.take_length] at this)))
      clear hkn
      go_wp2
      go_ret
      exact ⟨ret_int HS.out.symm, HB.out⟩

set_option maxRecDepth 100000 in
set_option maxHeartbeats 2000000 in
theorem contains_hasUnknown (a : Option Addr) (cap : Nat) (l : List Rpl) (w : World) (hn : l.length ≤ 1073741824) (h : Lies w (.list shReplica) [.slice a l.length cap] l) :
    Calls Tryd.prog 66 #[.slice a l.length cap, .func (.func 67) #[] #[]] w fun r w' => r = .returned (.bool (l.any unkB)) ∧ Below w.heap.size w w' := by
  have HL := Hid.intro h
  clear h
  obtain ⟨x, hx⟩ : ∃ x, idxN unkB l = x := ⟨_, rfl⟩
  have HX : Hid (idxN unkB l = x) := hx
  clear hx
  go_enter Tryd.func66, Tryd.ntmps66
  go_wp2_with (go_at_call 76; refine (HX.out ▸ index_hasUnknown a cap l _ hn HL.out).mono ?_; rintro e w' ⟨rfl, hb⟩; have HB : Hid (Below w.heap.size w w') := hb; clear hb)
  go_ret
  refine ⟨ret_bool ?_, HB.out⟩
  rw [Bool.eq_iff_iff, ← idxN_pos, HX.out]
  simp

set_option maxRecDepth 100000 in
set_option maxHeartbeats 2000000 in
theorem index_isUp (a : Option Addr) (cap : Nat) (l : List Rpl) (w : World) (hn : l.length ≤ 1073741824) (h : Lies w (.list shReplica) [.slice a l.length cap] l) :
    Calls Tryd.prog 76 #[.slice a l.length cap, .func (.func 77) #[] #[]] w fun r w' => r = .returned (.int .i64 (idxN upB l)) ∧ Below w.heap.size w w' := by
  have HL := Hid.intro h
  clear h
  go_enter Tryd.func76, Tryd.ntmps76
  go_wp2
  go_loopw [8] (fun i wr => ∃ k : Nat, k ≤ l.length ∧ i = .int .i64 k ∧ (∀ o ∈ l.take k, upB o = false) ∧ Below w.heap.size w wr) (fun i _ => l.length - (intOf i).toNat)
  case atStart => exact ⟨0, Nat.zero_le _, rfl, fun o ho => by simp at ho, Below.refl _ _⟩
  case round =>
    obtain ⟨k, hk, rfl, hno, hBr⟩ := hrel
    have HO := Hid.intro hno
    have HB := Hid.intro hBr
    clear hno hBr
    by_cases hlt : k < l.length
    · have hlt' : (k : Int) < (l.length : Int) := by omega
      have HLE : Hid (Lies wr (.list shReplica) [.slice a l.length cap] l) := HL.out.next HB.out
      obtain ⟨xg, xoff, xgo, xgs, xec, xel, xhec, xle⟩ := Lies.elem (HLE.out) hlt
      subst xgo
      rcases xX : l[k] with ⟨x0, x1, ⟨⟩⟩
      rw [xX] at xle
      have xH : Hid (l[k] = (x0, x1, ())) := xX
      clear xX
      obtain xev := lies_Replica xle
      subst xev
      have xc0 : wr.cell? ⟨xg, xoff + k * 2, none⟩ = some (.bool x0) := xhec 0 (by simp)
      have xc1 : wr.cell? ⟨xg, xoff + k * 2 + 1, none⟩ = some (.int .i64 x1) := xhec 1 (by simp)
      clear xhec xel xle
      have HX : Hid (l[k] = mkR x0 x1) := xH
      clear HLE xH
      cases hp : upB (mkR x0 x1)
      · have HS : Hid (upB l[k] = false) := Hid.intro (by rw [HX.out]; exact hp)
        have HP := Hid.intro hp
        clear hp
        go_wp2_with (go_at_call 77; refine (isUp_n x0 x1 false _ HP.out).mono ?_; rintro e w2 ⟨rfl, hb⟩; have HB2 : Hid (Below w.heap.size w w2) := below_next HB.out hb; clear hb)
        go_roundw
        case rel => exact ⟨k + 1, by omega, by go_num, mem_take_succ hlt HO.out HS.out, HB2.out⟩
        case measure => simp [intOf]; omega
      · have HS : Hid (idxN upB l = k) := Hid.intro (idxN_at hlt HO.out (by rw [HX.out]; exact hp)).1
        have HP := Hid.intro hp
        clear hp
        go_wp2_with (go_at_call 77; refine (isUp_n x0 x1 true _ HP.out).mono ?_; rintro e w2 ⟨rfl, hb⟩; have HB2 : Hid (Below w.heap.size w w2) := below_next HB.out hb; clear hb)
        go_ret
        exact ⟨ret_int HS.out.symm, HB2.out⟩
    · have hkn : k = l.length := by omega
      have HS : Hid (idxN upB l = -1) := Hid.intro (idxN_none (any_none (by have := HO.out; rwa [hkn, List.take_length] at this)))
      clear hkn
      go_wp2
      go_ret
      exact ⟨ret_int HS.out.symm, HB.out⟩

set_option maxRecDepth 100000 in
set_option maxHeartbeats 2000000 in
theorem isShard_n (a : Option Addr) (cap : Nat) (l : List Rpl) (z : Bool) (w : World) (hn : l.length ≤ 1073741824) (hz : shB (mkS l) = z) (h : Lies w (.list shReplica) [.slice a l.length cap] l) :
    Calls Tryd.prog 46 #[.agg #[.slice a l.length cap]] w fun r w' => r = .returned (.bool z) ∧ Below w.heap.size w w' := by
  obtain ⟨w0, hw0⟩ : ∃ x, x = w.alloc (.cells #[.slice a l.length cap] 42) := ⟨_, rfl⟩
  have hb0 : Below w.heap.size w w0 := hw0 ▸ Go.Joins.below_alloc1 _ _
  have HB0 : Hid (Bx w0 w.heap.size [.slice a l.length cap] ∧ Below w.heap.size w w0) := ⟨hw0 ▸ Bx.new w [_] _, hb0⟩
  have HL := Hid.intro (h.next hb0)
  clear hb0 h
  have HZ := Hid.intro hz
  clear hz
  cases hc : inR (l.length : Int) 1 5
  · have HR : Hid (z = false) := Hid.intro (by rw [← HZ.out]; show (inR ((l.length : Nat) : Int) 1 5 && _) = false; rw [hc]; rfl)
    go_enter Tryd.func46, Tryd.ntmps46
    go_upto_region 1 with fail
    rw [← hw0]
    clear hw0
    have s0 := (HB0.out.1).cell 0 rfl; have sz := (HB0.out.1).2
    go_wp2_with (go_at_call 45; refine (inRange_any _ _ _ _).mono ?_; rintro e w' ⟨rfl, hw⟩; have hw := hw.symm; subst hw; rw [hc])
    go_ret
    exact ⟨ret_bool HR.out.symm, HB0.out.2⟩
  · have HR : Hid (z = !l.any unkB) := Hid.intro (by rw [← HZ.out]; show (inR ((l.length : Nat) : Int) 1 5 && _) = _; rw [hc]; rfl)
    go_enter Tryd.func46, Tryd.ntmps46
    go_upto_region 1 with fail
    rw [← hw0]
    clear hw0
    have s0 := (HB0.out.1).cell 0 rfl; have sz := (HB0.out.1).2
    go_wp2_with (first | (go_at_call 45; refine (inRange_any _ _ _ _).mono ?_; rintro e w' ⟨rfl, hw⟩; have hw := hw.symm; subst hw; rw [hc]) | (go_at_call 66; refine (contains_hasUnknown a cap l _ hn HL.out).mono ?_; rintro e w2 ⟨rfl, hb⟩; have HB : Hid (Below w.heap.size w w2) := below_next HB0.out.2 hb; clear hb))
    go_ret
    exact ⟨ret_bool HR.out.symm, HB.out⟩

set_option maxRecDepth 100000 in
set_option maxHeartbeats 2000000 in
theorem primaryOf_n (a : Option Addr) (cap : Nat) (l : List Rpl) (w : World) (hn : l.length ≤ 1073741824) (h : Lies w (.list shReplica) [.slice a l.length cap] l) :
    Calls Tryd.prog 65 #[.agg #[.slice a l.length cap]] w fun r w' => r = .returned (.int .i64 (prm (mkS l))) ∧ Below w.heap.size w w' := by
  obtain ⟨w0, hw0⟩ : ∃ x, x = w.alloc (.cells #[.slice a l.length cap] 42) := ⟨_, rfl⟩
  have hb0 : Below w.heap.size w w0 := hw0 ▸ Go.Joins.below_alloc1 _ _
  have HB0 : Hid (Bx w0 w.heap.size [.slice a l.length cap] ∧ Below w.heap.size w w0) := ⟨hw0 ▸ Bx.new w [_] _, hb0⟩
  have HL := Hid.intro (h.next hb0)
  clear hb0 h
  go_enter Tryd.func65, Tryd.ntmps65
  go_upto_region 1 with fail
  rw [← hw0]
  clear hw0
  have s0 := (HB0.out.1).cell 0 rfl; have sz := (HB0.out.1).2
  go_wp2_with (go_at_call 76; refine (index_isUp a cap l _ hn HL.out).mono ?_; rintro e w2 ⟨rfl, hb⟩; have HB : Hid (Below w.heap.size w w2) := below_next HB0.out.2 hb; clear hb)
  go_ret
  exact ⟨rfl, HB.out⟩

set_option maxRecDepth 100000 in
set_option maxHeartbeats 2000000 in
theorem isLiving_n (a : Option Addr) (cap : Nat) (l : List Rpl) (z : Bool) (w : World) (hn : l.length ≤ 1073741824) (hz : livB (mkS l) = z) (h : Lies w (.list shReplica) [.slice a l.length cap] l) :
    Calls Tryd.prog 43 #[.agg #[.slice a l.length cap]] w fun r w' => r = .returned (.bool z) ∧ Below w.heap.size w w' := by
  obtain ⟨w0, hw0⟩ : ∃ x, x = w.alloc (.cells #[.slice a l.length cap] 42) := ⟨_, rfl⟩
  have hb0 : Below w.heap.size w w0 := hw0 ▸ Go.Joins.below_alloc1 _ _
  have HB0 : Hid (Bx w0 w.heap.size [.slice a l.length cap] ∧ Below w.heap.size w w0) := ⟨hw0 ▸ Bx.new w [_] _, hb0⟩
  have HL := Hid.intro (h.next hb0)
  clear hb0 h
  have HZ := Hid.intro hz
  clear hz
  obtain ⟨x, hx⟩ : ∃ x, prm (mkS l) = x := ⟨_, rfl⟩
  have HX : Hid (prm (mkS l) = x) := hx
  clear hx
  go_enter Tryd.func43, Tryd.ntmps43
  go_upto_region 1 with fail
  rw [← hw0]
  clear hw0
  have s0 := (HB0.out.1).cell 0 rfl; have sz := (HB0.out.1).2
  go_wp2_with (go_at_call 65; refine (HX.out ▸ primaryOf_n a cap l _ hn HL.out).mono ?_; rintro e w2 ⟨rfl, hb⟩; have HB : Hid (Below w.heap.size w w2) := below_next HB0.out.2 hb; clear hb)
  go_ret
  refine ⟨ret_bool ?_, HB.out⟩
  rw [← HZ.out, ← HX.out, Bool.eq_iff_iff]
  simp [livB, prm, idxN_pos]

set_option maxRecDepth 100000 in
set_option maxHeartbeats 2000000 in
theorem areAll_isShard (a : Option Addr) (cap : Nat) (l : List Shd) (w : World) (hn : l.length ≤ 1073741824) (hr : ∀ s ∈ l, (srs s).length ≤ 1073741824) (h : Lies w (.list shShard) [.slice a l.length cap] l) :
    Calls Tryd.prog 42 #[.slice a l.length cap, .func (.func 46) #[] #[]] w fun r w' => r = .returned (.bool (l.all shB)) ∧ Below w.heap.size w w' := by
  have HL := Hid.intro h
  have HR := Hid.intro hr
  clear h hr
  go_enter Tryd.func42, Tryd.ntmps42
  go_wp2
  go_loopw [9] (fun i wr => ∃ k : Nat, k ≤ l.length ∧ i = .int .i64 k ∧ (∀ o ∈ l.take k, shB o = true) ∧ Below w.heap.size w wr) (fun i _ => l.length - (intOf i).toNat)
  case atStart => exact ⟨0, Nat.zero_le _, rfl, fun o ho => by simp at ho, Below.refl _ _⟩
  case round =>
    obtain ⟨k, hk, rfl, hno, hBr⟩ := hrel
    have HO := Hid.intro hno
    have HB := Hid.intro hBr
    clear hno hBr
    by_cases hlt : k < l.length
    · have hlt' : (k : Int) < (l.length : Int) := by omega
      have HLE : Hid (Lies wr (.list shShard) [.slice a l.length cap] l) := HL.out.next HB.out
      obtain ⟨xg, xoff, xgo, xgs, xec, xel, xhec, xle⟩ := Lies.elem (HLE.out) hlt
      subst xgo
      rcases xX : l[k] with ⟨x0, ⟨⟩⟩
      rw [xX] at xle
      have xH : Hid (l[k] = (x0, ())) := xX
      clear xX
      obtain ⟨xa1, xk1, xev, xq1⟩ := lies_Shard xle
      subst xev
      have xc0 : wr.cell? ⟨xg, xoff + k, none⟩ = some (.slice xa1 x0.length xk1) := (by have := xhec 0 (by simp); simpa [shShard, Sh.c] using this)
      clear xhec xel xle
      have HX : Hid (l[k] = mkS x0) := xH
      have HN : Hid (x0.length ≤ 1073741824) := Hid.intro (by have := HR.out _ (List.getElem_mem hlt); rw [HX.out] at this; exact this)
      obtain ⟨w1, hw1⟩ : ∃ x, x = wr.alloc (.cells #[.slice xa1 x0.length xk1] 42) := ⟨_, rfl⟩
      have hb1 : Below wr.heap.size wr w1 := hw1 ▸ Go.Joins.below_alloc1 _ _
      have HB1 : Hid (Bx w1 wr.heap.size [.slice xa1 x0.length xk1] ∧ Below w.heap.size w w1 ∧ Lies w1 (.list shReplica) [.slice xa1 x0.length xk1] x0) := ⟨hw1 ▸ Bx.new wr [_] _, below_next HB.out hb1, xq1.next hb1⟩
      clear HLE xH xq1 hb1
      go_upto_region 4 with fail
      rw [← hw1]
      clear hw1
      have s0 := (HB1.out.1).cell 0 rfl; have sz := (HB1.out.1).2
      cases hp : shB (mkS x0)
      · have HS : Hid (l.all shB = false) := Hid.intro (all_no hlt (by rw [HX.out]; exact hp))
        have HP := Hid.intro hp
        clear hp
        go_wp2_with (go_at_call 46; refine (isShard_n xa1 xk1 x0 false _ HN.out HP.out HB1.out.2.2).mono ?_; rintro e w2 ⟨rfl, hb⟩; have HB2 : Hid (Below w.heap.size w w2) := below_next HB1.out.2.1 hb; clear hb)
        go_ret
        exact ⟨ret_bool HS.out.symm, HB2.out⟩
      · have HS : Hid (shB l[k] = true) := Hid.intro (by rw [HX.out]; exact hp)
        have HP := Hid.intro hp
        clear hp
        go_wp2_with (go_at_call 46; refine (isShard_n xa1 xk1 x0 true _ HN.out HP.out HB1.out.2.2).mono ?_; rintro e w2 ⟨rfl, hb⟩; have HB2 : Hid (Below w.heap.size w w2) := below_next HB1.out.2.1 hb; clear hb)
        go_roundw
        case rel => exact ⟨k + 1, by omega, by go_num, mem_take_succ hlt HO.out HS.out, HB2.out⟩
        case measure => simp [intOf]; omega
    · have hkn : k = l.length := by omega
      have HS : Hid (l.all shB = true) := Hid.intro (all_yes (by have := HO.out; rwa [hkn, List.take_length] at this))
      clear hkn
      go_wp2
      go_ret
      exact ⟨ret_bool HS.out.symm, HB.out⟩

set_option maxRecDepth 100000 in
set_option maxHeartbeats 2000000 in
theorem areAll_isLiving (a : Option Addr) (cap : Nat) (l : List Shd) (w : World) (hn : l.length ≤ 1073741824) (hr : ∀ s ∈ l, (srs s).length ≤ 1073741824) (h : Lies w (.list shShard) [.slice a l.length cap] l) :
    Calls Tryd.prog 42 #[.slice a l.length cap, .func (.func 43) #[] #[]] w fun r w' => r = .returned (.bool (l.all livB)) ∧ Below w.heap.size w w' := by
  have HL := Hid.intro h
  have HR := Hid.intro hr
  clear h hr
  go_enter Tryd.func42, Tryd.ntmps42
  go_wp2
  go_loopw [9] (fun i wr => ∃ k : Nat, k ≤ l.length ∧ i = .int .i64 k ∧ (∀ o ∈ l.take k, livB o = true) ∧ Below w.heap.size w wr) (fun i _ => l.length - (intOf i).toNat)
  case atStart => exact ⟨0, Nat.zero_le _, rfl, fun o ho => by simp at ho, Below.refl _ _⟩
  case round =>
    obtain ⟨k, hk, rfl, hno, hBr⟩ := hrel
    have HO := Hid.intro hno
    have HB := Hid.intro hBr
    clear hno hBr
    by_cases hlt : k < l.length
    · have hlt' : (k : Int) < (l.length : Int) := by omega
      have HLE : Hid (Lies wr (.list shShard) [.slice a l.length cap] l) := HL.out.next HB.out
      obtain ⟨xg, xoff, xgo, xgs, xec, xel, xhec, xle⟩ := Lies.elem (HLE.out) hlt
      subst xgo
      rcases xX : l[k] with ⟨x0, ⟨⟩⟩
      rw [xX] at xle
      have xH : Hid (l[k] = (x0, ())) := xX
      clear xX
      obtain ⟨xa1, xk1, xev, xq1⟩ := lies_Shard xle
      subst xev
      have xc0 : wr.cell? ⟨xg, xoff + k, none⟩ = some (.slice xa1 x0.length xk1) := (by have := xhec 0 (by simp); simpa [shShard, Sh.c] using this)
      clear xhec xel xle
      have HX : Hid (l[k] = mkS x0) := xH
      have HN : Hid (x0.length ≤ 1073741824) := Hid.intro (by have := HR.out _ (List.getElem_mem hlt); rw [HX.out] at this; exact this)
      obtain ⟨w1, hw1⟩ : ∃ x, x = wr.alloc (.cells #[.slice xa1 x0.length xk1] 42) := ⟨_, rfl⟩
      have hb1 : Below wr.heap.size wr w1 := hw1 ▸ Go.Joins.below_alloc1 _ _
      have HB1 : Hid (Bx w1 wr.heap.size [.slice xa1 x0.length xk1] ∧ Below w.heap.size w w1 ∧ Lies w1 (.list shReplica) [.slice xa1 x0.length xk1] x0) := ⟨hw1 ▸ Bx.new wr [_] _, below_next HB.out hb1, xq1.next hb1⟩
      clear HLE xH xq1 hb1
      go_upto_region 4 with fail
      rw [← hw1]
      clear hw1
      have s0 := (HB1.out.1).cell 0 rfl; have sz := (HB1.out.1).2
      cases hp : livB (mkS x0)
      · have HS : Hid (l.all livB = false) := Hid.intro (all_no hlt (by rw [HX.out]; exact hp))
        have HP := Hid.intro hp
        clear hp
        go_wp2_with (go_at_call 43; refine (isLiving_n xa1 xk1 x0 false _ HN.out HP.out HB1.out.2.2).mono ?_; rintro e w2 ⟨rfl, hb⟩; have HB2 : Hid (Below w.heap.size w w2) := below_next HB1.out.2.1 hb; clear hb)
        go_ret
        exact ⟨ret_bool HS.out.symm, HB2.out⟩
      · have HS : Hid (livB l[k] = true) := Hid.intro (by rw [HX.out]; exact hp)
        have HP := Hid.intro hp
        clear hp
        go_wp2_with (go_at_call 43; refine (isLiving_n xa1 xk1 x0 true _ HN.out HP.out HB1.out.2.2).mono ?_; rintro e w2 ⟨rfl, hb⟩; have HB2 : Hid (Below w.heap.size w w2) := below_next HB1.out.2.1 hb; clear hb)
        go_roundw
        case rel => exact ⟨k + 1, by omega, by go_num, mem_take_succ hlt HO.out HS.out, HB2.out⟩
        case measure => simp [intOf]; omega
    · have hkn : k = l.length := by omega
      have HS : Hid (l.all livB = true) := Hid.intro (all_yes (by have := HO.out; rwa [hkn, List.take_length] at this))
      clear hkn
      go_wp2
      go_ret
      exact ⟨ret_bool HS.out.symm, HB.out⟩

end Go.Proofs.YtkpobihpcnoemaaDoor
