/- Commits: the program's tests of replicas and shards that only steps ask for. Written by tools/mkCmA.py. -/
import Derived.Test.YtkpobihpcnoemaaDoorCmA
namespace Go.Proofs.YtkpobihpcnoemaaDoor
open Go.RowKit
set_option linter.unusedVariables false
set_option linter.unusedSimpArgs false

theorem idx_ex (p : Rpl → Bool) : ∀ l : List Rpl, (∃ (k : Nat) (hk : k < l.length), idxN p l = k ∧ l.find? p = some l[k] ∧ p l[k] = true) ∨ (idxN p l = -1 ∧ l.any p = false ∧ l.find? p = none) := by
  intro l
  cases h : l.any p
  · exact Or.inr ⟨idxN_none h, rfl, find_none h⟩
  · left
    have hi : l.findIdx p < l.length := List.findIdx_lt_length_of_exists (List.any_eq_true.1 h)
    have h1 : p l[l.findIdx p] = true := List.findIdx_getElem (w := hi)
    have h0 : ∀ o ∈ l.take (l.findIdx p), p o = false := by
      intro o ho
      obtain ⟨j, hj, rfl⟩ := List.getElem_of_mem ho
      rw [List.length_take] at hj
      rw [List.getElem_take]
      exact by simpa using List.not_of_lt_findIdx (p := p) (xs := l) (i := j) (by omega)
    have := idxN_at hi h0 h1
    exact ⟨_, hi, this.1, this.2.2, h1⟩

set_option maxRecDepth 100000 in
set_option maxHeartbeats 2000000 in
theorem lacksCopy_n (d : Bool) (h : Int) (z : Bool) (w : World) (hz : lckB (mkR d h) = z) :
    Calls Tryd.prog 96 #[.agg #[.bool d, .int .i64 h]] w fun r w' => r = .returned (.bool z) ∧ Below w.heap.size w w' := by
  obtain ⟨w0, hw0⟩ : ∃ x, x = w.alloc (.cells #[.bool d, .int .i64 h] 44) := ⟨_, rfl⟩
  have hb0 : Below w.heap.size w w0 := hw0 ▸ Go.Joins.below_alloc1 _ _
  have HB0 : Hid (Bx w0 w.heap.size [.bool d, .int .i64 h] ∧ Below w.heap.size w w0) := ⟨hw0 ▸ Bx.new w [_, _] _, hb0⟩
  have HZ := Hid.intro hz
  clear hb0 hz
  cases d
  case true =>
    have HR : Hid (z = false) := Hid.intro (by rw [← HZ.out]; rfl)
    go_enter Tryd.func96, Tryd.ntmps96
    go_upto_region 1 with fail
    rw [← hw0]
    clear hw0
    have s0 := (HB0.out.1).cell 0 rfl; have s1 := (HB0.out.1).cell 1 rfl; have sz := (HB0.out.1).2
    go_wp2
    go_ret
    exact ⟨ret_bool HR.out.symm, HB0.out.2⟩
  by_cases c : h = 2
  · have q : (h != 2) = false := by simpa using c
    have HR : Hid (z = false) := Hid.intro (by rw [← HZ.out]; unfold lckB; rw [rdn_mk, rhs_mk, decide_eq_true c]; rfl)
    clear c
    go_enter Tryd.func96, Tryd.ntmps96
    go_upto_region 1 with fail
    rw [← hw0]
    clear hw0
    have s0 := (HB0.out.1).cell 0 rfl; have s1 := (HB0.out.1).cell 1 rfl; have sz := (HB0.out.1).2
    go_wp2
    go_ret
    exact ⟨ret_bool HR.out.symm, HB0.out.2⟩
  have q : (h != 2) = true := by simpa using c
  have HR : Hid (z = true) := Hid.intro (by rw [← HZ.out]; unfold lckB; rw [rdn_mk, rhs_mk, decide_eq_false c]; rfl)
  clear c
  go_enter Tryd.func96, Tryd.ntmps96
  go_upto_region 1 with fail
  rw [← hw0]
  clear hw0
  have s0 := (HB0.out.1).cell 0 rfl; have s1 := (HB0.out.1).cell 1 rfl; have sz := (HB0.out.1).2
  go_wp2
  go_ret
  exact ⟨ret_bool HR.out.symm, HB0.out.2⟩

set_option maxRecDepth 100000 in
set_option maxHeartbeats 2000000 in
theorem keepsCopy_n (d : Bool) (h : Int) (z : Bool) (w : World) (hz : kpB (mkR d h) = z) :
    Calls Tryd.prog 97 #[.agg #[.bool d, .int .i64 h]] w fun r w' => r = .returned (.bool z) ∧ Below w.heap.size w w' := by
  obtain ⟨w0, hw0⟩ : ∃ x, x = w.alloc (.cells #[.bool d, .int .i64 h] 44) := ⟨_, rfl⟩
  have hb0 : Below w.heap.size w w0 := hw0 ▸ Go.Joins.below_alloc1 _ _
  have HB0 : Hid (Bx w0 w.heap.size [.bool d, .int .i64 h] ∧ Below w.heap.size w w0) := ⟨hw0 ▸ Bx.new w [_, _] _, hb0⟩
  have HZ := Hid.intro hz
  clear hb0 hz
  cases d
  case true =>
    have HR : Hid (z = false) := Hid.intro (by rw [← HZ.out]; rfl)
    go_enter Tryd.func97, Tryd.ntmps97
    go_upto_region 1 with fail
    rw [← hw0]
    clear hw0
    have s0 := (HB0.out.1).cell 0 rfl; have s1 := (HB0.out.1).cell 1 rfl; have sz := (HB0.out.1).2
    go_wp2
    go_ret
    exact ⟨ret_bool HR.out.symm, HB0.out.2⟩
  by_cases c : h = 2
  · have q : (h == 2) = true := by simpa using c
    have HR : Hid (z = true) := Hid.intro (by rw [← HZ.out]; unfold kpB; rw [rdn_mk, rhs_mk, decide_eq_true c]; rfl)
    clear c
    go_enter Tryd.func97, Tryd.ntmps97
    go_upto_region 1 with fail
    rw [← hw0]
    clear hw0
    have s0 := (HB0.out.1).cell 0 rfl; have s1 := (HB0.out.1).cell 1 rfl; have sz := (HB0.out.1).2
    go_wp2
    go_ret
    exact ⟨ret_bool HR.out.symm, HB0.out.2⟩
  have q : (h == 2) = false := by simpa using c
  by_cases c2 : h = 3
  · have q2 : (h == 3) = true := by simpa using c2
    have HR : Hid (z = true) := Hid.intro (by rw [← HZ.out]; unfold kpB; rw [rdn_mk, rhs_mk, decide_eq_false c, decide_eq_true c2]; rfl)
    clear c c2
    go_enter Tryd.func97, Tryd.ntmps97
    go_upto_region 1 with fail
    rw [← hw0]
    clear hw0
    have s0 := (HB0.out.1).cell 0 rfl; have s1 := (HB0.out.1).cell 1 rfl; have sz := (HB0.out.1).2
    go_wp2
    go_ret
    exact ⟨ret_bool HR.out.symm, HB0.out.2⟩
  have q2 : (h == 3) = false := by simpa using c2
  have HR : Hid (z = false) := Hid.intro (by rw [← HZ.out]; unfold kpB; rw [rdn_mk, rhs_mk, decide_eq_false c, decide_eq_false c2]; rfl)
  clear c c2
  go_enter Tryd.func97, Tryd.ntmps97
  go_upto_region 1 with fail
  rw [← hw0]
  clear hw0
  have s0 := (HB0.out.1).cell 0 rfl; have s1 := (HB0.out.1).cell 1 rfl; have sz := (HB0.out.1).2
  go_wp2
  go_ret
  exact ⟨ret_bool HR.out.symm, HB0.out.2⟩

set_option maxRecDepth 100000 in
set_option maxHeartbeats 2000000 in
theorem index_lacksCopy (a : Option Addr) (cap : Nat) (l : List Rpl) (w : World) (hn : l.length ≤ 1073741824) (h : Lies w (.list shReplica) [.slice a l.length cap] l) :
    Calls Tryd.prog 76 #[.slice a l.length cap, .func (.func 96) #[] #[]] w fun r w' => r = .returned (.int .i64 (idxN lckB l)) ∧ Below w.heap.size w w' := by
  have HL := Hid.intro h
  clear h
  go_enter Tryd.func76, Tryd.ntmps76
  go_wp2
  go_loopw [8] (fun i wr => ∃ k : Nat, k ≤ l.length ∧ i = .int .i64 k ∧ (∀ o ∈ l.take k, lckB o = false) ∧ Below w.heap.size w wr) (fun i _ => l.length - (intOf i).toNat)
  case atStart => exact ⟨0, Nat.zero_le _, rfl, fun o ho => by simp at ho, Below.refl _ _⟩
  case round =>
    obtain ⟨k, hk, rfl, hno, hBr⟩ := hrel
    have HO := Hid.intro hno
    have HB := Hid.intro hBr
    clear hno hBr
    by_cases hlt : k < l.length
    · have hlt' : (k : Int) < (l.length : Int) := by omega
      have HLE : Hid (Lies wr (.list shReplica) [.slice a l.length cap] l) := HL.out.next HB.out
      obtain ⟨xg, xoff, xgo, xgs, xec, xel, xhec, xle⟩ := Lies.elem (HLE.out) hlt
      subst xgo
      rcases xX : l[k] with ⟨x0, x1, ⟨⟩⟩
      rw [xX] at xle
      have xH : Hid (l[k] = (x0, x1, ())) := xX
      clear xX
      obtain xev := lies_Replica xle
      subst xev
      have xc0 : wr.cell? ⟨xg, xoff + k * 2, none⟩ = some (.bool x0) := xhec 0 (by simp)
      have xc1 : wr.cell? ⟨xg, xoff + k * 2 + 1, none⟩ = some (.int .i64 x1) := xhec 1 (by simp)
      clear xhec xel xle
      have HX : Hid (l[k] = mkR x0 x1) := xH
      clear HLE xH
      cases hp : lckB (mkR x0 x1)
      · have HS : Hid (lckB l[k] = false) := Hid.intro (by rw [HX.out]; exact hp)
        have HP := Hid.intro hp
        clear hp
        go_wp2_with (go_at_call 96; refine (lacksCopy_n x0 x1 false _ HP.out).mono ?_; rintro e w2 ⟨rfl, hb⟩; have HB2 : Hid (Below w.heap.size w w2) := below_next HB.out hb; clear hb)
        go_roundw
        case rel => exact ⟨k + 1, by omega, by go_num, mem_take_succ hlt HO.out HS.out, HB2.out⟩
        case measure => simp [intOf]; omega
      · have HS : Hid (idxN lckB l = k) := Hid.intro (idxN_at hlt HO.out (by rw [HX.out]; exact hp)).1
        have HP := Hid.intro hp
        clear hp
        go_wp2_with (go_at_call 96; refine (lacksCopy_n x0 x1 true _ HP.out).mono ?_; rintro e w2 ⟨rfl, hb⟩; have HB2 : Hid (Below w.heap.size w w2) := below_next HB.out hb; clear hb)
        go_ret
        exact ⟨ret_int HS.out.symm, HB2.out⟩
    · have hkn : k = l.length := by omega
      have HS : Hid (idxN lckB l = -1) := Hid.intro (idxN_none (any_none (by have := HO.out; rwa [hkn, List.take_length] at this)))
      clear hkn
      go_wp2
      go_ret
      exact ⟨ret_int HS.out.symm, HB.out⟩

set_option maxRecDepth 100000 in
set_option maxHeartbeats 2000000 in
theorem contains_lacksCopy (a : Option Addr) (cap : Nat) (l : List Rpl) (w : World) (hn : l.length ≤ 1073741824) (h : Lies w (.list shReplica) [.slice a l.length cap] l) :
    Calls Tryd.prog 66 #[.slice a l.length cap, .func (.func 96) #[] #[]] w fun r w' => r = .returned (.bool (l.any lckB)) ∧ Below w.heap.size w w' := by
  have HL := Hid.intro h
  clear h
  obtain ⟨x, hx⟩ : ∃ x, idxN lckB l = x := ⟨_, rfl⟩
  have HX : Hid (idxN lckB l = x) := hx
  clear hx
  go_enter Tryd.func66, Tryd.ntmps66
  go_wp2_with (go_at_call 76; refine (HX.out ▸ index_lacksCopy a cap l _ hn HL.out).mono ?_; rintro e w' ⟨rfl, hb⟩; have HB : Hid (Below w.heap.size w w') := hb; clear hb)
  go_ret
  refine ⟨ret_bool ?_, HB.out⟩
  rw [Bool.eq_iff_iff, ← idxN_pos, HX.out]
  simp

set_option maxRecDepth 100000 in
set_option maxHeartbeats 2000000 in
theorem index_keepsCopy (a : Option Addr) (cap : Nat) (l : List Rpl) (w : World) (hn : l.length ≤ 1073741824) (h : Lies w (.list shReplica) [.slice a l.length cap] l) :
    Calls Tryd.prog 76 #[.slice a l.length cap, .func (.func 97) #[] #[]] w fun r w' => r = .returned (.int .i64 (idxN kpB l)) ∧ Below w.heap.size w w' := by
  have HL := Hid.intro h
  clear h
  go_enter Tryd.func76, Tryd.ntmps76
  go_wp2
  go_loopw [8] (fun i wr => ∃ k : Nat, k ≤ l.length ∧ i = .int .i64 k ∧ (∀ o ∈ l.take k, kpB o = false) ∧ Below w.heap.size w wr) (fun i _ => l.length - (intOf i).toNat)
  case atStart => exact ⟨0, Nat.zero_le _, rfl, fun o ho => by simp at ho, Below.refl _ _⟩
  case round =>
    obtain ⟨k, hk, rfl, hno, hBr⟩ := hrel
    have HO := Hid.intro hno
    have HB := Hid.intro hBr
    clear hno hBr
    by_cases hlt : k < l.length
    · have hlt' : (k : Int) < (l.length : Int) := by omega
      have HLE : Hid (Lies wr (.list shReplica) [.slice a l.length cap] l) := HL.out.next HB.out
      obtain ⟨xg, xoff, xgo, xgs, xec, xel, xhec, xle⟩ := Lies.elem (HLE.out) hlt
      subst xgo
      rcases xX : l[k] with ⟨x0, x1, ⟨⟩⟩
      rw [xX] at xle
      have xH : Hid (l[k] = (x0, x1, ())) := xX
      clear xX
      obtain xev := lies_Replica xle
      subst xev
      have xc0 : wr.cell? ⟨xg, xoff + k * 2, none⟩ = some (.bool x0) := xhec 0 (by simp)
      have xc1 : wr.cell? ⟨xg, xoff + k * 2 + 1, none⟩ = some (.int .i64 x1) := xhec 1 (by simp)
      clear xhec xel xle
      have HX : Hid (l[k] = mkR x0 x1) := xH
      clear HLE xH
      cases hp : kpB (mkR x0 x1)
      · have HS : Hid (kpB l[k] = false) := Hid.intro (by rw [HX.out]; exact hp)
        have HP := Hid.intro hp
        clear hp
        go_wp2_with (go_at_call 97; refine (keepsCopy_n x0 x1 false _ HP.out).mono ?_; rintro e w2 ⟨rfl, hb⟩; have HB2 : Hid (Below w.heap.size w w2) := below_next HB.out hb; clear hb)
        go_roundw
        case rel => exact ⟨k + 1, by omega, by go_num, mem_take_succ hlt HO.out HS.out, HB2.out⟩
        case measure => simp [intOf]; omega
      · have HS : Hid (idxN kpB l = k) := Hid.intro (idxN_at hlt HO.out (by rw [HX.out]; exact hp)).1
        have HP := Hid.intro hp
        clear hp
        go_wp2_with (go_at_call 97; refine (keepsCopy_n x0 x1 true _ HP.out).mono ?_; rintro e w2 ⟨rfl, hb⟩; have HB2 : Hid (Below w.heap.size w w2) := below_next HB.out hb; clear hb)
        go_ret
        exact ⟨ret_int HS.out.symm, HB2.out⟩
    · have hkn : k = l.length := by omega
      have HS : Hid (idxN kpB l = -1) := Hid.intro (idxN_none (any_none (by have := HO.out; rwa [hkn, List.take_length] at this)))
      clear hkn
      go_wp2
      go_ret
      exact ⟨ret_int HS.out.symm, HB.out⟩

set_option maxRecDepth 100000 in
set_option maxHeartbeats 2000000 in
theorem contains_keepsCopy (a : Option Addr) (cap : Nat) (l : List Rpl) (w : World) (hn : l.length ≤ 1073741824) (h : Lies w (.list shReplica) [.slice a l.length cap] l) :
    Calls Tryd.prog 66 #[.slice a l.length cap, .func (.func 97) #[] #[]] w fun r w' => r = .returned (.bool (l.any kpB)) ∧ Below w.heap.size w w' := by
  have HL := Hid.intro h
  clear h
  obtain ⟨x, hx⟩ : ∃ x, idxN kpB l = x := ⟨_, rfl⟩
  have HX : Hid (idxN kpB l = x) := hx
  clear hx
  go_enter Tryd.func66, Tryd.ntmps66
  go_wp2_with (go_at_call 76; refine (HX.out ▸ index_keepsCopy a cap l _ hn HL.out).mono ?_; rintro e w' ⟨rfl, hb⟩; have HB : Hid (Below w.heap.size w w') := hb; clear hb)
  go_ret
  refine ⟨ret_bool ?_, HB.out⟩
  rw [Bool.eq_iff_iff, ← idxN_pos, HX.out]
  simp

set_option maxRecDepth 100000 in
set_option maxHeartbeats 2000000 in
theorem isKept_n (a : Option Addr) (cap : Nat) (l : List Rpl) (z : Bool) (w : World) (hn : l.length ≤ 1073741824) (hz : ktB (mkS l) = z) (h : Lies w (.list shReplica) [.slice a l.length cap] l) :
    Calls Tryd.prog 93 #[.agg #[.slice a l.length cap]] w fun r w' => r = .returned (.bool z) ∧ Below w.heap.size w w' := by
  obtain ⟨w0, hw0⟩ : ∃ x, x = w.alloc (.cells #[.slice a l.length cap] 42) := ⟨_, rfl⟩
  have hb0 : Below w.heap.size w w0 := hw0 ▸ Go.Joins.below_alloc1 _ _
  have HB0 : Hid (Bx w0 w.heap.size [.slice a l.length cap] ∧ Below w.heap.size w w0) := ⟨hw0 ▸ Bx.new w [_] _, hb0⟩
  have HL := Hid.intro (h.next hb0)
  clear hb0 h
  subst hz
  go_enter Tryd.func93, Tryd.ntmps93
  go_upto_region 1 with fail
  rw [← hw0]
  clear hw0
  have s0 := (HB0.out.1).cell 0 rfl; have sz := (HB0.out.1).2
  go_wp2_with (go_at_call 66; refine (contains_keepsCopy a cap l _ hn HL.out).mono ?_; rintro e w2 ⟨rfl, hb⟩; have HB : Hid (Below w.heap.size w w2) := below_next HB0.out.2 hb; clear hb)
  go_ret
  exact ⟨rfl, HB.out⟩

set_option maxRecDepth 100000 in
set_option maxHeartbeats 2000000 in
theorem isCopied_n (a : Option Addr) (cap : Nat) (l : List Rpl) (z : Bool) (w : World) (hn : l.length ≤ 1073741824) (hz : cpB (mkS l) = z) (h : Lies w (.list shReplica) [.slice a l.length cap] l) :
    Calls Tryd.prog 92 #[.agg #[.slice a l.length cap]] w fun r w' => r = .returned (.bool z) ∧ Below w.heap.size w w' := by
  obtain ⟨w0, hw0⟩ : ∃ x, x = w.alloc (.cells #[.slice a l.length cap] 42) := ⟨_, rfl⟩
  have hb0 : Below w.heap.size w w0 := hw0 ▸ Go.Joins.below_alloc1 _ _
  have HB0 : Hid (Bx w0 w.heap.size [.slice a l.length cap] ∧ Below w.heap.size w w0) := ⟨hw0 ▸ Bx.new w [_] _, hb0⟩
  have HL := Hid.intro (h.next hb0)
  clear hb0 h
  have HZ := Hid.intro hz
  clear hz
  cases hv : livB (mkS l)
  · have HV := Hid.intro hv
    have HR : Hid (z = false) := Hid.intro (by rw [← HZ.out]; unfold cpB; rw [hv]; rfl)
    clear hv
    go_enter Tryd.func92, Tryd.ntmps92
    go_upto_region 1 with fail
    rw [← hw0]
    clear hw0
    have s0 := (HB0.out.1).cell 0 rfl; have sz := (HB0.out.1).2
    go_wp2_with (go_at_call 43; refine (isLiving_n a cap l false _ hn HV.out HL.out).mono ?_; rintro e w2 ⟨rfl, hb⟩; have HB1 : Hid (Bx w2 w.heap.size [.slice a l.length cap] ∧ Below w.heap.size w w2 ∧ Lies w2 (.list shReplica) [.slice a l.length cap] l) := ⟨HB0.out.1.next hb, below_next HB0.out.2 hb, HL.out.next hb⟩; clear hb s0 sz; have s0 := HB1.out.1.cell 0 rfl; have sz := HB1.out.1.2)
    go_ret
    exact ⟨ret_bool HR.out.symm, HB1.out.2.1⟩
  have HV := Hid.intro hv
  have HR : Hid (z = !l.any lckB) := Hid.intro (by rw [← HZ.out]; unfold cpB; rw [hv]; rfl)
  clear hv
  go_enter Tryd.func92, Tryd.ntmps92
  go_upto_region 1 with fail
  rw [← hw0]
  clear hw0
  have s0 := (HB0.out.1).cell 0 rfl; have sz := (HB0.out.1).2
  go_wp2_with (first | (go_at_call 43; refine (isLiving_n a cap l true _ hn HV.out HL.out).mono ?_; rintro e w2 ⟨rfl, hb⟩; have HB1 : Hid (Bx w2 w.heap.size [.slice a l.length cap] ∧ Below w.heap.size w w2 ∧ Lies w2 (.list shReplica) [.slice a l.length cap] l) := ⟨HB0.out.1.next hb, below_next HB0.out.2 hb, HL.out.next hb⟩; clear hb s0 sz; have s0 := HB1.out.1.cell 0 rfl; have sz := HB1.out.1.2) | (go_at_call 66; refine (contains_lacksCopy a cap l _ hn HB1.out.2.2).mono ?_; rintro e w3 ⟨rfl, hb⟩; have HB : Hid (Below w.heap.size w w3) := below_next HB1.out.2.1 hb; clear hb))
  go_ret
  exact ⟨ret_bool HR.out.symm, HB.out⟩

set_option maxRecDepth 100000 in
set_option maxHeartbeats 2000000 in
theorem isLocked_n (a : Option Addr) (cap : Nat) (l : List Rpl) (z : Bool) (w : World) (hn : l.length ≤ 1073741824) (hz : lkdB (mkS l) = z) (h : Lies w (.list shReplica) [.slice a l.length cap] l) :
    Calls Tryd.prog 91 #[.agg #[.slice a l.length cap]] w fun r w' => r = .returned (.bool z) ∧ Below w.heap.size w w' := by
  obtain ⟨w0, hw0⟩ : ∃ x, x = w.alloc (.cells #[.slice a l.length cap] 42) := ⟨_, rfl⟩
  have hb0 : Below w.heap.size w w0 := hw0 ▸ Go.Joins.below_alloc1 _ _
  have HB0 : Hid (Bx w0 w.heap.size [.slice a l.length cap] ∧ Below w.heap.size w w0) := ⟨hw0 ▸ Bx.new w [_] _, hb0⟩
  have HL := Hid.intro (h.next hb0)
  clear hb0 h
  have HZ := Hid.intro hz
  clear hz
  rcases idx_ex upB l with ⟨k, hk, e1, e2, e3⟩ | ⟨e1, e2, e3⟩
  case inr =>
    have HP : Hid (prm (mkS l) = -1) := Hid.intro e1
    have HR : Hid (z = false) := Hid.intro (by rw [← HZ.out]; unfold lkdB; rw [srs_mk, e3])
    clear e1 e2 e3
    go_enter Tryd.func91, Tryd.ntmps91
    go_upto_region 1 with fail
    rw [← hw0]
    clear hw0
    have s0 := (HB0.out.1).cell 0 rfl; have sz := (HB0.out.1).2
    go_wp2_with (go_at_call 65; refine (HP.out ▸ primaryOf_n a cap l _ hn HL.out).mono ?_; rintro e w2 ⟨rfl, hb⟩; have HB : Hid (Below w.heap.size w w2) := below_next HB0.out.2 hb; clear hb)
    go_ret
    exact ⟨ret_bool HR.out.symm, HB.out⟩
  have HP : Hid (prm (mkS l) = k) := Hid.intro e1
  have HK : Hid (z = (decide (rhs l[k] = 1) || decide (rhs l[k] = 2))) := Hid.intro (by rw [← HZ.out]; unfold lkdB; rw [srs_mk, e2])
  clear e1 e2 e3
  go_enter Tryd.func91, Tryd.ntmps91
  go_upto_region 1 with fail
  rw [← hw0]
  clear hw0
  have s0 := (HB0.out.1).cell 0 rfl; have sz := (HB0.out.1).2
  go_wp2_with fail
  refine (HP.out ▸ primaryOf_n a cap l _ hn HL.out).mono ?_
  rintro e w2 ⟨rfl, hb⟩
  have HB : Hid (Bx w2 w.heap.size [.slice a l.length cap] ∧ Below w.heap.size w w2 ∧ Lies w2 (.list shReplica) [.slice a l.length cap] l) := ⟨HB0.out.1.next hb, below_next HB0.out.2 hb, HL.out.next hb⟩
  clear hb s0 sz HB0 HL
  obtain ⟨xg, xoff, xgo, xgs, xec, xel, xhec, xle⟩ := Lies.elem (HB.out.2.2) hk
  subst xgo
  rcases xX : l[k] with ⟨x0, x1, ⟨⟩⟩
  rw [xX] at xle
  have xH : Hid (l[k] = (x0, x1, ())) := xX
  clear xX
  obtain xev := lies_Replica xle
  subst xev
  have xc0 : w2.cell? ⟨xg, xoff + k * 2, none⟩ = some (.bool x0) := xhec 0 (by simp)
  have xc1 : w2.cell? ⟨xg, xoff + k * 2 + 1, none⟩ = some (.int .i64 x1) := xhec 1 (by simp)
  clear xhec xel xle
  have s0 := (HB.out.1).cell 0 rfl; have sz := (HB.out.1).2
  obtain ⟨h, hh⟩ : ∃ h : Int, h = x1 := ⟨_, rfl⟩
  subst hh
  have HK : Hid (z = (decide (h = 1) || decide (h = 2))) := Hid.intro (by rw [HK.out, xH.out]; rfl)
  have hk1 : (0 : Int) ≤ (k : Int) ∧ (k : Int) < (l.length : Int) := by omega
  have hk0 : ¬ (k : Int) < 0 := by omega
  clear xH
  by_cases c : h = 1
  · have q : (h == 1) = true := by simpa using c
    have HR : Hid (z = true) := Hid.intro (by rw [HK.out, decide_eq_true c]; rfl)
    clear c
    go_wp2
    go_ret
    exact ⟨ret_bool HR.out.symm, HB.out.2.1⟩
  have q : (h == 1) = false := by simpa using c
  by_cases c2 : h = 2
  · have q2 : (h == 2) = true := by simpa using c2
    have HR : Hid (z = true) := Hid.intro (by rw [HK.out, decide_eq_true c2, Bool.or_true])
    clear c c2
    go_wp2
    go_ret
    exact ⟨ret_bool HR.out.symm, HB.out.2.1⟩
  have q2 : (h == 2) = false := by simpa using c2
  have HR : Hid (z = false) := Hid.intro (by rw [HK.out, decide_eq_false c, decide_eq_false c2]; rfl)
  clear c c2
  go_wp2
  go_ret
  exact ⟨ret_bool HR.out.symm, HB.out.2.1⟩

set_option maxRecDepth 100000 in
set_option maxHeartbeats 2000000 in
theorem areAll_isLocked (a : Option Addr) (cap : Nat) (l : List Shd) (w : World) (hn : l.length ≤ 1073741824) (hr : ∀ s ∈ l, (srs s).length ≤ 1073741824) (h : Lies w (.list shShard) [.slice a l.length cap] l) :
    Calls Tryd.prog 42 #[.slice a l.length cap, .func (.func 91) #[] #[]] w fun r w' => r = .returned (.bool (l.all lkdB)) ∧ Below w.heap.size w w' := by
  have HL := Hid.intro h
  have HR := Hid.intro hr
  clear h hr
  go_enter Tryd.func42, Tryd.ntmps42
  go_wp2
  go_loopw [9] (fun i wr => ∃ k : Nat, k ≤ l.length ∧ i = .int .i64 k ∧ (∀ o ∈ l.take k, lkdB o = true) ∧ Below w.heap.size w wr) (fun i _ => l.length - (intOf i).toNat)
  case atStart => exact ⟨0, Nat.zero_le _, rfl, fun o ho => by simp at ho, Below.refl _ _⟩
  case round =>
    obtain ⟨k, hk, rfl, hno, hBr⟩ := hrel
    have HO := Hid.intro hno
    have HB := Hid.intro hBr
    clear hno hBr
    by_cases hlt : k < l.length
    · have hlt' : (k : Int) < (l.length : Int) := by omega
      have HLE : Hid (Lies wr (.list shShard) [.slice a l.length cap] l) := HL.out.next HB.out
      obtain ⟨xg, xoff, xgo, xgs, xec, xel, xhec, xle⟩ := Lies.elem (HLE.out) hlt
      subst xgo
      rcases xX : l[k] with ⟨x0, ⟨⟩⟩
      rw [xX] at xle
      have xH : Hid (l[k] = (x0, ())) := xX
      clear xX
      obtain ⟨xa1, xk1, xev, xq1⟩ := lies_Shard xle
      subst xev
      have xc0 : wr.cell? ⟨xg, xoff + k, none⟩ = some (.slice xa1 x0.length xk1) := (by have := xhec 0 (by simp); simpa [shShard, Sh.c] using this)
      clear xhec xel xle
      have HX : Hid (l[k] = mkS x0) := xH
      have HN : Hid (x0.length ≤ 1073741824) := Hid.intro (by have := HR.out _ (List.getElem_mem hlt); rw [HX.out] at this; exact this)
      obtain ⟨w1, hw1⟩ : ∃ x, x = wr.alloc (.cells #[.slice xa1 x0.length xk1] 42) := ⟨_, rfl⟩
      have hb1 : Below wr.heap.size wr w1 := hw1 ▸ Go.Joins.below_alloc1 _ _
      have HB1 : Hid (Bx w1 wr.heap.size [.slice xa1 x0.length xk1] ∧ Below w.heap.size w w1 ∧ Lies w1 (.list shReplica) [.slice xa1 x0.length xk1] x0) := ⟨hw1 ▸ Bx.new wr [_] _, below_next HB.out hb1, xq1.next hb1⟩
      clear HLE xH xq1 hb1
      go_upto_region 4 with fail
      rw [← hw1]
      clear hw1
      have s0 := (HB1.out.1).cell 0 rfl; have sz := (HB1.out.1).2
      cases hp : lkdB (mkS x0)
      · have HS : Hid (l.all lkdB = false) := Hid.intro (all_no hlt (by rw [HX.out]; exact hp))
        have HP := Hid.intro hp
        clear hp
        go_wp2_with (go_at_call 91; refine (isLocked_n xa1 xk1 x0 false _ HN.out HP.out HB1.out.2.2).mono ?_; rintro e w2 ⟨rfl, hb⟩; have HB2 : Hid (Below w.heap.size w w2) := below_next HB1.out.2.1 hb; clear hb)
        go_ret
        exact ⟨ret_bool HS.out.symm, HB2.out⟩
      · have HS : Hid (lkdB l[k] = true) := Hid.intro (by rw [HX.out]; exact hp)
        have HP := Hid.intro hp
        clear hp
        go_wp2_with (go_at_call 91; refine (isLocked_n xa1 xk1 x0 true _ HN.out HP.out HB1.out.2.2).mono ?_; rintro e w2 ⟨rfl, hb⟩; have HB2 : Hid (Below w.heap.size w w2) := below_next HB1.out.2.1 hb; clear hb)
        go_roundw
        case rel => exact ⟨k + 1, by omega, by go_num, mem_take_succ hlt HO.out HS.out, HB2.out⟩
        case measure => simp [intOf]; omega
    · have hkn : k = l.length := by omega
      have HS : Hid (l.all lkdB = true) := Hid.intro (all_yes (by have := HO.out; rwa [hkn, List.take_length] at this))
      clear hkn
      go_wp2
      go_ret
      exact ⟨ret_bool HS.out.symm, HB.out⟩

set_option maxRecDepth 100000 in
set_option maxHeartbeats 2000000 in
theorem areAll_isCopied (a : Option Addr) (cap : Nat) (l : List Shd) (w : World) (hn : l.length ≤ 1073741824) (hr : ∀ s ∈ l, (srs s).length ≤ 1073741824) (h : Lies w (.list shShard) [.slice a l.length cap] l) :
    Calls Tryd.prog 42 #[.slice a l.length cap, .func (.func 92) #[] #[]] w fun r w' => r = .returned (.bool (l.all cpB)) ∧ Below w.heap.size w w' := by
  have HL := Hid.intro h
  have HR := Hid.intro hr
  clear h hr
  go_enter Tryd.func42, Tryd.ntmps42
  go_wp2
  go_loopw [9] (fun i wr => ∃ k : Nat, k ≤ l.length ∧ i = .int .i64 k ∧ (∀ o ∈ l.take k, cpB o = true) ∧ Below w.heap.size w wr) (fun i _ => l.length - (intOf i).toNat)
  case atStart => exact ⟨0, Nat.zero_le _, rfl, fun o ho => by simp at ho, Below.refl _ _⟩
  case round =>
    obtain ⟨k, hk, rfl, hno, hBr⟩ := hrel
    have HO := Hid.intro hno
    have HB := Hid.intro hBr
    clear hno hBr
    by_cases hlt : k < l.length
    · have hlt' : (k : Int) < (l.length : Int) := by omega
      have HLE : Hid (Lies wr (.list shShard) [.slice a l.length cap] l) := HL.out.next HB.out
      obtain ⟨xg, xoff, xgo, xgs, xec, xel, xhec, xle⟩ := Lies.elem (HLE.out) hlt
      subst xgo
      rcases xX : l[k] with ⟨x0, ⟨⟩⟩
      rw [xX] at xle
      have xH : Hid (l[k] = (x0, ())) := xX
      clear xX
      obtain ⟨xa1, xk1, xev, xq1⟩ := lies_Shard xle
      subst xev
      have xc0 : wr.cell? ⟨xg, xoff + k, none⟩ = some (.slice xa1 x0.length xk1) := (by have := xhec 0 (by simp); simpa [shShard, Sh.c] using this)
      clear xhec xel xle
      have HX : Hid (l[k] = mkS x0) := xH
      have HN : Hid (x0.length ≤ 1073741824) := Hid.intro (by have := HR.out _ (List.getElem_mem hlt); rw [HX.out] at this; exact this)
      obtain ⟨w1, hw1⟩ : ∃ x, x = wr.alloc (.cells #[.slice xa1 x0.length xk1] 42) := ⟨_, rfl⟩
      have hb1 : Below wr.heap.size wr w1 := hw1 ▸ Go.Joins.below_alloc1 _ _
      have HB1 : Hid (Bx w1 wr.heap.size [.slice xa1 x0.length xk1] ∧ Below w.heap.size w w1 ∧ Lies w1 (.list shReplica) [.slice xa1 x0.length xk1] x0) := ⟨hw1 ▸ Bx.new wr [_] _, below_next HB.out hb1, xq1.next hb1⟩
      clear HLE xH xq1 hb1
      go_upto_region 4 with fail
      rw [← hw1]
      clear hw1
      have s0 := (HB1.out.1).cell 0 rfl; have sz := (HB1.out.1).2
      cases hp : cpB (mkS x0)
      · have HS : Hid (l.all cpB = false) := Hid.intro (all_no hlt (by rw [HX.out]; exact hp))
        have HP := Hid.intro hp
        clear hp
        go_wp2_with (go_at_call 92; refine (isCopied_n xa1 xk1 x0 false _ HN.out HP.out HB1.out.2.2).mono ?_; rintro e w2 ⟨rfl, hb⟩; have HB2 : Hid (Below w.heap.size w w2) := below_next HB1.out.2.1 hb; clear hb)
        go_ret
        exact ⟨ret_bool HS.out.symm, HB2.out⟩
      · have HS : Hid (cpB l[k] = true) := Hid.intro (by rw [HX.out]; exact hp)
        have HP := Hid.intro hp
        clear hp
        go_wp2_with (go_at_call 92; refine (isCopied_n xa1 xk1 x0 true _ HN.out HP.out HB1.out.2.2).mono ?_; rintro e w2 ⟨rfl, hb⟩; have HB2 : Hid (Below w.heap.size w w2) := below_next HB1.out.2.1 hb; clear hb)
        go_roundw
        case rel => exact ⟨k + 1, by omega, by go_num, mem_take_succ hlt HO.out HS.out, HB2.out⟩
        case measure => simp [intOf]; omega
    · have hkn : k = l.length := by omega
      have HS : Hid (l.all cpB = true) := Hid.intro (all_yes (by have := HO.out; rwa [hkn, List.take_length] at this))
      clear hkn
      go_wp2
      go_ret
      exact ⟨ret_bool HS.out.symm, HB.out⟩

set_option maxRecDepth 100000 in
set_option maxHeartbeats 2000000 in
theorem areAll_isKept (a : Option Addr) (cap : Nat) (l : List Shd) (w : World) (hn : l.length ≤ 1073741824) (hr : ∀ s ∈ l, (srs s).length ≤ 1073741824) (h : Lies w (.list shShard) [.slice a l.length cap] l) :
    Calls Tryd.prog 42 #[.slice a l.length cap, .func (.func 93) #[] #[]] w fun r w' => r = .returned (.bool (l.all ktB)) ∧ Below w.heap.size w w' := by
  have HL := Hid.intro h
  have HR := Hid.intro hr
  clear h hr
  go_enter Tryd.func42, Tryd.ntmps42
  go_wp2
  go_loopw [9] (fun i wr => ∃ k : Nat, k ≤ l.length ∧ i = .int .i64 k ∧ (∀ o ∈ l.take k, ktB o = true) ∧ Below w.heap.size w wr) (fun i _ => l.length - (intOf i).toNat)
  case atStart => exact ⟨0, Nat.zero_le _, rfl, fun o ho => by simp at ho, Below.refl _ _⟩
  case round =>
    obtain ⟨k, hk, rfl, hno, hBr⟩ := hrel
    have HO := Hid.intro hno
    have HB := Hid.intro hBr
    clear hno hBr
    by_cases hlt : k < l.length
    · have hlt' : (k : Int) < (l.length : Int) := by omega
      have HLE : Hid (Lies wr (.list shShard) [.slice a l.length cap] l) := HL.out.next HB.out
      obtain ⟨xg, xoff, xgo, xgs, xec, xel, xhec, xle⟩ := Lies.elem (HLE.out) hlt
      subst xgo
      rcases xX : l[k] with ⟨x0, ⟨⟩⟩
      rw [xX] at xle
      have xH : Hid (l[k] = (x0, ())) := xX
      clear xX
      obtain ⟨xa1, xk1, xev, xq1⟩ := lies_Shard xle
      subst xev
      have xc0 : wr.cell? ⟨xg, xoff + k, none⟩ = some (.slice xa1 x0.length xk1) := (by have := xhec 0 (by simp); simpa [shShard, Sh.c] using this)
      clear xhec xel xle
      have HX : Hid (l[k] = mkS x0) := xH
      have HN : Hid (x0.length ≤ 1073741824) := Hid.intro (by have := HR.out _ (List.getElem_mem hlt); rw [HX.out] at this; exact this)
      obtain ⟨w1, hw1⟩ : ∃ x, x = wr.alloc (.cells #[.slice xa1 x0.length xk1] 42) := ⟨_, rfl⟩
      have hb1 : Below wr.heap.size wr w1 := hw1 ▸ Go.Joins.below_alloc1 _ _
      have HB1 : Hid (Bx w1 wr.heap.size [.slice xa1 x0.length xk1] ∧ Below w.heap.size w w1 ∧ Lies w1 (.list shReplica) [.slice xa1 x0.length xk1] x0) := ⟨hw1 ▸ Bx.new wr [_] _, below_next HB.out hb1, xq1.next hb1⟩
      clear HLE xH xq1 hb1
      go_upto_region 4 with fail
      rw [← hw1]
      clear hw1
      have s0 := (HB1.out.1).cell 0 rfl; have sz := (HB1.out.1).2
      cases hp : ktB (mkS x0)
      · have HS : Hid (l.all ktB = false) := Hid.intro (all_no hlt (by rw [HX.out]; exact hp))
        have HP := Hid.intro hp
        clear hp
        go_wp2_with (go_at_call 93; refine (isKept_n xa1 xk1 x0 false _ HN.out HP.out HB1.out.2.2).mono ?_; rintro e w2 ⟨rfl, hb⟩; have HB2 : Hid (Below w.heap.size w w2) := below_next HB1.out.2.1 hb; clear hb)
        go_ret
        exact ⟨ret_bool HS.out.symm, HB2.out⟩
      · have HS : Hid (ktB l[k] = true) := Hid.intro (by rw [HX.out]; exact hp)
        have HP := Hid.intro hp
        clear hp
        go_wp2_with (go_at_call 93; refine (isKept_n xa1 xk1 x0 true _ HN.out HP.out HB1.out.2.2).mono ?_; rintro e w2 ⟨rfl, hb⟩; have HB2 : Hid (Below w.heap.size w w2) := below_next HB1.out.2.1 hb; clear hb)
        go_roundw
        case rel => exact ⟨k + 1, by omega, by go_num, mem_take_succ hlt HO.out HS.out, HB2.out⟩
        case measure => simp [intOf]; omega
    · have hkn : k = l.length := by omega
      have HS : Hid (l.all ktB = true) := Hid.intro (all_yes (by have := HO.out; rwa [hkn, List.take_length] at this))
      clear hkn
      go_wp2
      go_ret
      exact ⟨ret_bool HS.out.symm, HB.out⟩

end Go.Proofs.YtkpobihpcnoemaaDoor
