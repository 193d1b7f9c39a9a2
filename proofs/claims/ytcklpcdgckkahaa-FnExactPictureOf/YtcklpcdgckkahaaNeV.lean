/- Nets: which banks are marked, which ways are watched; PictureOf on both sides. Written by tools/mkNeV.py. -/
import Derived.Test.YtcklpcdgckkahaaNeU
namespace Go.Proofs.Ytcklpcdgckkahaa
open Go.RowKit
set_option linter.unusedVariables false
set_option linter.unusedSimpArgs false

set_option maxRecDepth 100000 in
theorem isMarked_n (x0 : Int) (x1 : Bool) (x2 : Int) (w : World) : Calls Try.prog 57 #[.agg #[.int .i64 x0, .bool x1, .int .i64 x2]] w fun r w' => r = .returned (.bool x1) ∧ Below w.heap.size w w' := by
  go_enter Try.func57, Try.ntmps57
  go_wp2
  go_ret
  exact ⟨rfl, (by repeat (first | refine Below.setCell ?_ (by (try simp) <;> omega) _ | refine Below.alloc ?_ (by (try simp) <;> omega) _ | refine Below.drew ?_ | assumption | exact Below.refl _ _ | refine Below.trans ?_ (Below.mono (by assumption) (by (try simp) <;> omega))))⟩
set_option maxRecDepth 100000 in
set_option maxHeartbeats 2000000 in
theorem indexBank_n (a : Option Addr) (cap : Nat) (l : List (Sh.T shBank)) (w : World) (hn : l.length ≤ 1073741824) (h : Lies w (.list shBank) [.slice a l.length cap] l) :
    Calls Try.prog 85 #[.slice a l.length cap, .func (.func 57) #[] #[]] w fun r w' => (∃ x : Int, r = .returned (.int .i64 x) ∧ (0 ≤ x ↔ l.any bmk = true)) ∧ Below w.heap.size w w' := by
  have HL := Hid.intro h
  clear h
  go_enter Try.func85, Try.ntmps85
  go_wp2
  go_loopw [8] (fun i wr => ∃ k : Nat, k ≤ l.length ∧ i = .int .i64 k ∧ (∀ o ∈ l.take k, bmk o = false) ∧ Below w.heap.size w wr) (fun i _ => l.length - (intOf i).toNat)
  case atStart => exact ⟨0, Nat.zero_le _, rfl, fun o ho => by simp at ho, Below.refl _ _⟩
  case round =>
    obtain ⟨k, hk, rfl, hno, hBr⟩ := hrel
    have HO := Hid.intro hno
    have HB := Hid.intro hBr
    clear hno hBr
    by_cases hlt : k < l.length
    · have hlt' : (k : Int) < (l.length : Int) := by omega
      have HLE : Hid (Lies wr (.list shBank) [.slice a l.length cap] l) := HL.out.next HB.out
      obtain ⟨xg, xoff, xgo, xgs, xec, xel, xhec, xle⟩ := Lies.elem (HLE.out) hlt
      subst xgo
      rcases xX : l[k] with ⟨x0, x1, x2, ⟨⟩⟩
      rw [xX] at xle
      have xH : Hid (l[k] = (x0, x1, x2, ())) := xX
      clear xX
      obtain xev := lies_Bank xle
      subst xev
      have xc0 : wr.cell? ⟨xg, xoff + k * 3, none⟩ = some (.int .i64 x0) := xhec 0 (by simp)
      have xc1 : wr.cell? ⟨xg, xoff + k * 3 + 1, none⟩ = some (.bool x1) := xhec 1 (by simp)
      have xc2 : wr.cell? ⟨xg, xoff + k * 3 + 2, none⟩ = some (.int .i64 x2) := xhec 2 (by simp)
      clear xhec xel xle
      have HX : Hid (l[k] = mkBk x0 x1 x2) := xH
      have HMEM : Hid (l[k] ∈ l) := Hid.intro (List.getElem_mem hlt)
      clear HLE xH
      cases x1
      · have HS : Hid (bmk l[k] = false) := Hid.intro (by rw [HX.out]; rfl)
        go_wp2_with (go_at_call 57; refine (isMarked_n x0 false x2 _).mono ?_; rintro e w2 ⟨rfl, hb⟩; have HB2 : Hid (Below w.heap.size w w2) := below_next HB.out hb; clear hb)
        go_roundw
        case rel => exact ⟨k + 1, by omega, by go_num, mem_take_succ hlt HO.out HS.out, HB2.out⟩
        case measure => simp [intOf]; omega
      · have HS : Hid (0 ≤ (k : Int) ↔ l.any bmk = true) := Hid.intro ⟨fun _ => List.any_eq_true.2 ⟨l[k], HMEM.out, by rw [HX.out]; rfl⟩, fun _ => by omega⟩
        go_wp2_with (go_at_call 57; refine (isMarked_n x0 true x2 _).mono ?_; rintro e w2 ⟨rfl, hb⟩; have HB2 : Hid (Below w.heap.size w w2) := below_next HB.out hb; clear hb)
        go_ret
        exact ⟨⟨_, rfl, HS.out⟩, HB2.out⟩
    · have hkn : k = l.length := by omega
      have HS : Hid (0 ≤ (-1 : Int) ↔ l.any bmk = true) := Hid.intro ⟨fun q => absurd q (by decide), fun q => by
        obtain ⟨p, hp, q⟩ := List.any_eq_true.1 q
        have := HO.out p (by rw [hkn, List.take_length]; exact hp)
        rw [this] at q; cases q⟩
      clear hkn
      go_wp2
      go_ret
      exact ⟨⟨_, rfl, HS.out⟩, HB.out⟩
set_option maxRecDepth 100000 in
set_option maxHeartbeats 1000000 in
theorem containsBank_n (a : Option Addr) (cap : Nat) (l : List (Sh.T shBank)) (w : World) (hn : l.length ≤ 1073741824) (h : Lies w (.list shBank) [.slice a l.length cap] l) :
    Calls Try.prog 56 #[.slice a l.length cap, .func (.func 57) #[] #[]] w fun r w' => r = .returned (.bool (l.any bmk)) ∧ Below w.heap.size w w' := by
  have HL := Hid.intro h
  clear h
  go_enter Try.func56, Try.ntmps56
  go_wp2_with (go_at_call 85; refine (indexBank_n a cap l _ hn HL.out).mono ?_; rintro e w' ⟨⟨x, rfl, hx⟩, hb⟩; have HB : Hid (Below w.heap.size w w') := hb; clear hb; have HX := Hid.intro hx; clear hx)
  go_ret
  refine ⟨ret_bool ?_, HB.out⟩
  rw [Bool.eq_iff_iff, ← HX.out]
  simp

set_option maxRecDepth 100000 in
theorem isWatched_n (x0 x1 : Int) (v1 : Value) (x3 : Bool) (v2 : Value) (w : World) (h1 : ∃ a n k, v1 = .slice a n k) (h2 : ∃ a n k, v2 = .slice a n k) : Calls Try.prog 81 #[.agg #[.int .i64 x0, .int .i64 x1, v1, .bool x3, v2]] w fun r w' => r = .returned (.bool x3) ∧ Below w.heap.size w w' := by
  obtain ⟨a1, n1, k1, rfl⟩ := h1
  obtain ⟨a2, n2, k2, rfl⟩ := h2
  go_enter Try.func81, Try.ntmps81
  go_wp2
  go_ret
  exact ⟨rfl, (by repeat (first | refine Below.setCell ?_ (by (try simp) <;> omega) _ | refine Below.alloc ?_ (by (try simp) <;> omega) _ | refine Below.drew ?_ | assumption | exact Below.refl _ _ | refine Below.trans ?_ (Below.mono (by assumption) (by (try simp) <;> omega))))⟩
set_option maxRecDepth 100000 in
set_option maxHeartbeats 2000000 in
theorem indexWay_n (a : Option Addr) (cap : Nat) (l : List (Sh.T shWay)) (w : World) (hn : l.length ≤ 1073741824) (h : Lies w (.list shWay) [.slice a l.length cap] l) :
    Calls Try.prog 98 #[.slice a l.length cap, .func (.func 81) #[] #[]] w fun r w' => (∃ x : Int, r = .returned (.int .i64 x) ∧ (0 ≤ x ↔ l.any wwt = true)) ∧ Below w.heap.size w w' := by
  have HL := Hid.intro h
  clear h
  go_enter Try.func98, Try.ntmps98
  go_wp2
  go_loopw [8] (fun i wr => ∃ k : Nat, k ≤ l.length ∧ i = .int .i64 k ∧ (∀ o ∈ l.take k, wwt o = false) ∧ Below w.heap.size w wr) (fun i _ => l.length - (intOf i).toNat)
  case atStart => exact ⟨0, Nat.zero_le _, rfl, fun o ho => by simp at ho, Below.refl _ _⟩
  case round =>
    obtain ⟨k, hk, rfl, hno, hBr⟩ := hrel
    have HO := Hid.intro hno
    have HB := Hid.intro hBr
    clear hno hBr
    by_cases hlt : k < l.length
    · have hlt' : (k : Int) < (l.length : Int) := by omega
      have HLE : Hid (Lies wr (.list shWay) [.slice a l.length cap] l) := HL.out.next HB.out
      obtain ⟨xg, xoff, xgo, xgs, xec, xel, xhec, xle⟩ := Lies.elem (HLE.out) hlt
      subst xgo
      rcases xX : l[k] with ⟨x0, x1, x2, x3, x4, ⟨⟩⟩
      rw [xX] at xle
      have xH : Hid (l[k] = (x0, x1, x2, x3, x4, ())) := xX
      clear xX
      obtain ⟨xa1, xk1, xa2, xk2, xev, xq1, xq2⟩ := lies_Way xle
      subst xev
      have xc0 : wr.cell? ⟨xg, xoff + k * 5, none⟩ = some (.int .i64 x0) := xhec 0 (by simp)
      have xc1 : wr.cell? ⟨xg, xoff + k * 5 + 1, none⟩ = some (.int .i64 x1) := xhec 1 (by simp)
      have xc2 : wr.cell? ⟨xg, xoff + k * 5 + 2, none⟩ = some (.slice xa1 x2.length xk1) := xhec 2 (by simp)
      have xc3 : wr.cell? ⟨xg, xoff + k * 5 + 3, none⟩ = some (.bool x3) := xhec 3 (by simp)
      have xc4 : wr.cell? ⟨xg, xoff + k * 5 + 4, none⟩ = some (.slice xa2 x4.length xk2) := xhec 4 (by simp)
      clear xhec xel xle
      have HX : Hid (l[k] = mkWy x0 x1 x2 x3 x4) := xH
      have HMEM : Hid (l[k] ∈ l) := Hid.intro (List.getElem_mem hlt)
      clear HLE xH
      cases x3
      · have HS : Hid (wwt l[k] = false) := Hid.intro (by rw [HX.out]; rfl)
        go_wp2_with (go_at_call 81; refine (isWatched_n x0 x1 _ false _ _ ⟨_, _, _, rfl⟩ ⟨_, _, _, rfl⟩).mono ?_; rintro e w2 ⟨rfl, hb⟩; have HB2 : Hid (Below w.heap.size w w2) := below_next HB.out hb; clear hb)
        go_roundw
        case rel => exact ⟨k + 1, by omega, by go_num, mem_take_succ hlt HO.out HS.out, HB2.out⟩
        case measure => simp [intOf]; omega
      · have HS : Hid (0 ≤ (k : Int) ↔ l.any wwt = true) := Hid.intro ⟨fun _ => List.any_eq_true.2 ⟨l[k], HMEM.out, by rw [HX.out]; rfl⟩, fun _ => by omega⟩
        go_wp2_with (go_at_call 81; refine (isWatched_n x0 x1 _ true _ _ ⟨_, _, _, rfl⟩ ⟨_, _, _, rfl⟩).mono ?_; rintro e w2 ⟨rfl, hb⟩; have HB2 : Hid (Below w.heap.size w w2) := below_next HB.out hb; clear hb)
        go_ret
        exact ⟨⟨_, rfl, HS.out⟩, HB2.out⟩
    · have hkn : k = l.length := by omega
      have HS : Hid (0 ≤ (-1 : Int) ↔ l.any wwt = true) := Hid.intro ⟨fun q => absurd q (by decide), fun q => by
        obtain ⟨p, hp, q⟩ := List.any_eq_true.1 q
        have := HO.out p (by rw [hkn, List.take_length]; exact hp)
        rw [this] at q; cases q⟩
      clear hkn
      go_wp2
      go_ret
      exact ⟨⟨_, rfl, HS.out⟩, HB.out⟩
set_option maxRecDepth 100000 in
set_option maxHeartbeats 1000000 in
theorem containsWay_n (a : Option Addr) (cap : Nat) (l : List (Sh.T shWay)) (w : World) (hn : l.length ≤ 1073741824) (h : Lies w (.list shWay) [.slice a l.length cap] l) :
    Calls Try.prog 80 #[.slice a l.length cap, .func (.func 81) #[] #[]] w fun r w' => r = .returned (.bool (l.any wwt)) ∧ Below w.heap.size w w' := by
  have HL := Hid.intro h
  clear h
  go_enter Try.func80, Try.ntmps80
  go_wp2_with (go_at_call 98; refine (indexWay_n a cap l _ hn HL.out).mono ?_; rintro e w' ⟨⟨x, rfl, hx⟩, hb⟩; have HB : Hid (Below w.heap.size w w') := hb; clear hb; have HX := Hid.intro hx; clear hx)
  go_ret
  refine ⟨ret_bool ?_, HB.out⟩
  rw [Bool.eq_iff_iff, ← HX.out]
  simp

def wholeB (bs : List (Sh.T shBank)) (ws : List (Sh.T shWay)) : Bool := bs.all bmk && !ws.any wwt
theorem all_false {bs : List (Sh.T shBank)} {k : Nat} (h : k < bs.length) (hb : bmk bs[k] = false) : bs.all bmk = false := by
  rw [List.all_eq_false]; exact ⟨bs[k], List.getElem_mem h, by rw [hb]; decide⟩
set_option maxRecDepth 100000 in
set_option maxHeartbeats 2000000 in
theorem isWhole_n (a1 : Option Addr) (k1 : Nat) (a2 : Option Addr) (k2 : Nat) (bs : List (Sh.T shBank)) (ws : List (Sh.T shWay)) (w : World) (hn1 : bs.length ≤ 1073741824) (hn2 : ws.length ≤ 1073741824) (h1 : Lies w (.list shBank) [.slice a1 bs.length k1] bs) (h2 : Lies w (.list shWay) [.slice a2 ws.length k2] ws) :
    Calls Try.prog 49 #[.agg #[.slice a1 bs.length k1, .slice a2 ws.length k2]] w fun r w' => r = .returned (.bool (wholeB bs ws)) ∧ Below w.heap.size w w' := by
  have HL : Hid (Lies w (.list shBank) [.slice a1 bs.length k1] bs ∧ Lies w (.list shWay) [.slice a2 ws.length k2] ws) := ⟨h1, h2⟩
  clear h1 h2
  obtain ⟨w0, hw0⟩ : ∃ x, x = (w.alloc (.cells #[.slice a1 bs.length k1, .slice a2 ws.length k2] 30)) := ⟨_, rfl⟩
  have HB0 : Hid (Bx w0 w.heap.size [.slice a1 bs.length k1, .slice a2 ws.length k2] ∧ Below w.heap.size w w0) := ⟨hw0 ▸ Bx.new w [_, _] _, hw0 ▸ Go.Joins.below_alloc1 _ _⟩
  go_enter Try.func49, Try.ntmps49
  go_upto_region 1 with fail
  rw [← hw0]
  clear hw0
  have s0 := (HB0.out.1).cell 0 rfl; have s1 := (HB0.out.1).cell 1 rfl; have sz := (HB0.out.1).2
  go_wp2
  clear s0 s1 sz
  go_loopw [8] (fun i wr => ∃ k : Nat, k ≤ bs.length ∧ i = .int .i64 k ∧ (∀ o ∈ bs.take k, bmk o = true) ∧ Bx wr w.heap.size [.slice a1 bs.length k1, .slice a2 ws.length k2] ∧ Below w.heap.size w wr) (fun i _ => bs.length - (intOf i).toNat)
  case atStart => exact ⟨0, Nat.zero_le _, rfl, fun o ho => by simp at ho, HB0.out⟩
  case round =>
    obtain ⟨k, hk, rfl, hno, hbx, hBr⟩ := hrel
    have HO := Hid.intro hno
    have HB : Hid (Bx wr w.heap.size [.slice a1 bs.length k1, .slice a2 ws.length k2] ∧ Below w.heap.size w wr) := ⟨hbx, hBr⟩
    clear hno hBr hbx HB0
    by_cases hlt : k < bs.length
    · have hlt' : (k : Int) < (bs.length : Int) := by omega
      have HLE : Hid (Lies wr (.list shBank) [.slice a1 bs.length k1] bs) := HL.out.1.next HB.out.2
      obtain ⟨xg, xoff, xgo, xgs, xec, xel, xhec, xle⟩ := Lies.elem (HLE.out) hlt
      subst xgo
      rcases xX : bs[k] with ⟨x0, x1, x2, ⟨⟩⟩
      rw [xX] at xle
      have xH : Hid (bs[k] = (x0, x1, x2, ())) := xX
      clear xX
      obtain xev := lies_Bank xle
      subst xev
      have xc0 : wr.cell? ⟨xg, xoff + k * 3, none⟩ = some (.int .i64 x0) := xhec 0 (by simp)
      have xc1 : wr.cell? ⟨xg, xoff + k * 3 + 1, none⟩ = some (.bool x1) := xhec 1 (by simp)
      have xc2 : wr.cell? ⟨xg, xoff + k * 3 + 2, none⟩ = some (.int .i64 x2) := xhec 2 (by simp)
      clear xhec xel xle
      have HX : Hid (bs[k] = mkBk x0 x1 x2) := xH
      have HB1 : Hid (Bx (wr.alloc (.cells #[.int .i64 x0, .bool x1, .int .i64 x2] 80)) w.heap.size [.slice (some ⟨xg, xoff, none⟩) bs.length k1, .slice a2 ws.length k2] ∧ Below w.heap.size w (wr.alloc (.cells #[.int .i64 x0, .bool x1, .int .i64 x2] 80))) := ⟨HB.out.1.alloc _, HB.out.2.alloc HB.out.2.size _⟩
      clear HLE xH
      cases x1
      · have HS : Hid (wholeB bs ws = false) := Hid.intro (by unfold wholeB; rw [all_false hlt (by rw [HX.out]; rfl)]; rfl)
        go_wp2
        go_ret
        exact ⟨ret_bool HS.out.symm, HB1.out.2⟩
      · have HS : Hid (bmk bs[k] = true) := Hid.intro (by rw [HX.out]; rfl)
        go_wp2
        go_roundw
        case rel => exact ⟨k + 1, by omega, by go_num, mem_take_succ hlt HO.out HS.out, HB1.out⟩
        case measure => simp [intOf]; omega
    · have hkn : k = bs.length := by omega
      have HA : Hid (bs.all bmk = true) := Hid.intro (by rw [List.all_eq_true]; have := HO.out; rwa [hkn, List.take_length] at this)
      have HC : Hid (Lies wr (.list shWay) [.slice a2 ws.length k2] ws) := HL.out.2.next HB.out.2
      have HW : Hid (wholeB bs ws = !ws.any wwt) := Hid.intro (by unfold wholeB; rw [HA.out]; rfl)
      clear hkn
      have s0 := (HB.out.1).cell 0 rfl; have s1 := (HB.out.1).cell 1 rfl; have sz := (HB.out.1).2
      go_wp2_with (go_at_call 80; refine (containsWay_n a2 k2 ws _ hn2 HC.out).mono ?_; rintro e w2 ⟨rfl, hb⟩; have HB2 : Hid (Below w.heap.size w w2) := below_next HB.out.2 hb; clear hb)
      go_ret
      exact ⟨ret_bool HW.out.symm, HB2.out⟩
noncomputable def picA (bs : List (Sh.T shBank)) (ws : List (Sh.T shWay)) : Int × Bool × Bool := (if tf (goodN bs ws) = true then picN bs ws else 0, tf (goodN bs ws) && wholeB bs ws, tf (goodN bs ws))
def PicP (p : Int × Bool × Bool) (w : World) (r : Ending) (w' : World) : Prop := r = .returned (.tuple #[.int .i64 p.1, .bool p.2.1, .bool p.2.2]) ∧ Below w.heap.size w w'
def PcP (p : Int × Bool) (w : World) (r : Ending) (w' : World) : Prop := r = .returned (.tuple #[.int .i64 p.1, .bool p.2]) ∧ Below w.heap.size w w'
theorem picA_no {bs : List (Sh.T shBank)} {ws : List (Sh.T shWay)} (h : tf (goodN bs ws) = false) : picA bs ws = (0, false, false) := by unfold picA; rw [h]; rfl
theorem picA_yes {bs : List (Sh.T shBank)} {ws : List (Sh.T shWay)} (h : tf (goodN bs ws) = true) : picA bs ws = (picN bs ws, wholeB bs ws, true) := by unfold picA; rw [h]; rfl

set_option maxRecDepth 100000 in
set_option maxHeartbeats 8000000 in
theorem pictureOf_n (cs : List Value) (bs : List (Sh.T shBank)) (ws : List (Sh.T shWay)) (w : World) (hz : szD shNet (bs, ws, ()) ≤ 1073741824) (h : Lies w shNet cs (bs, ws, ())) : Calls Try.prog 17 #[.agg cs.toArray] w (PicP (picA bs ws) w) := by
  obtain ⟨a1, k1, a2, k2, rfl, h1, h2⟩ := lies_Net h
  obtain ⟨w0, hw0⟩ : ∃ x, x = (w.alloc (.cells #[.slice a1 bs.length k1, .slice a2 ws.length k2] 30)) := ⟨_, rfl⟩
  have hb0 : Below w.heap.size w w0 := hw0 ▸ Go.Joins.below_alloc1 _ _
  have HB0 : Hid (Bx w0 w.heap.size [.slice a1 bs.length k1, .slice a2 ws.length k2] ∧ Below w.heap.size w w0 ∧ Lies w0 shNet [.slice a1 bs.length k1, .slice a2 ws.length k2] (bs, ws, ())) := ⟨hw0 ▸ Bx.new w [_, _] _, hb0, h.next hb0⟩
  have HL : Hid (Lies w0 (.list shBank) [.slice a1 bs.length k1] bs ∧ Lies w0 (.list shWay) [.slice a2 ws.length k2] ws) := ⟨h1.next hb0, h2.next hb0⟩
  have hsz := net_sizes hz
  have hn1 := hsz.1
  have hn2 := hsz.2.1
  have HC : Hid (∀ W, Below w0.heap.size w0 W → Calls Try.prog 18 #[.agg #[.slice a1 bs.length k1, .slice a2 ws.length k2]] W fun r w' => r = .returned (.bool (tf (goodN bs ws))) ∧ Below W.heap.size W w') := Hid.intro (fun W hW => goodNet_n _ bs ws W hz (HB0.out.2.2.next hW))
  clear h h1 h2 hb0 hsz
  go_enter Try.func17, Try.ntmps17
  go_upto_region 1 with fail
  rw [← hw0]
  clear hw0
  have s0 := (HB0.out.1).cell 0 rfl; have s1 := (HB0.out.1).cell 1 rfl; have sz := (HB0.out.1).2
  go_wp2_with fail
  refine (HC.out _ (Below.refl _ _)).mono ?_
  rintro r w1 ⟨rfl, hb⟩
  have HB1 : Hid (Bx w1 w.heap.size [.slice a1 bs.length k1, .slice a2 ws.length k2] ∧ Below w.heap.size w w1 ∧ Below w0.heap.size w0 w1) := ⟨HB0.out.1.next hb, below_next HB0.out.2.1 hb, hb⟩
  clear hb s0 s1 sz HC
  cases e : tf (goodN bs ws)
  · have HN := Hid.intro (picA_no e)
    clear e
    go_wp2
    go_ret3
    exact ⟨by rw [HN.out]; rfl, HB1.out.2.1⟩
  have HN := Hid.intro (picA_yes e)
  have HG := Hid.intro (good_b (tf_iff.1 e))
  clear e
  have hnb := HG.out.nb
  have hnw := HG.out.nw
  clear HB0
  have s0 := (HB1.out.1).cell 0 rfl; have s1 := (HB1.out.1).cell 1 rfl; have sz := (HB1.out.1).2
  go_wp2
  clear s0 s1 sz
  go_loopw [18, 5] (fun v18 vs wr => ∃ k : Nat, k ≤ bs.length ∧ v18 = .int .i64 k ∧ vs = .int .i64 (sumF bnt (bs.take k)) ∧ Bx wr w.heap.size [.slice a1 bs.length k1, .slice a2 ws.length k2] ∧ Below w1.heap.size w1 wr) (fun v18 _ _ => bs.length - (intOf v18).toNat)
  case atStart => exact ⟨0, Nat.zero_le _, rfl, rfl, HB1.out.1, Below.refl _ _⟩
  case round =>
    obtain ⟨k, hk, rfl, rfl, hbx, hBr⟩ := hrel
    have HB2 : Hid (Bx wr w.heap.size [.slice a1 bs.length k1, .slice a2 ws.length k2] ∧ Below w1.heap.size w1 wr) := ⟨hbx, hBr⟩
    clear hbx hBr
    obtain ⟨hs0, hs1⟩ := sumF_take bnt (k := k) HG.out.nt hnb (by decide)
    by_cases hlt : k < bs.length
    · have hlt' : (k : Int) < (bs.length : Int) := by omega
      have HLE : Hid (Lies wr (.list shBank) [.slice a1 bs.length k1] bs) := (HL.out.1.next HB1.out.2.2).next HB2.out.2
      obtain ⟨xg, xoff, xgo, xgs, xec, xel, xhec, xle⟩ := Lies.elem (HLE.out) hlt
      subst xgo
      rcases xX : bs[k] with ⟨x0, x1, x2, ⟨⟩⟩
      rw [xX] at xle
      have xH : Hid (bs[k] = (x0, x1, x2, ())) := xX
      clear xX
      obtain xev := lies_Bank xle
      subst xev
      have xc0 : wr.cell? ⟨xg, xoff + k * 3, none⟩ = some (.int .i64 x0) := xhec 0 (by simp)
      have xc1 : wr.cell? ⟨xg, xoff + k * 3 + 1, none⟩ = some (.bool x1) := xhec 1 (by simp)
      have xc2 : wr.cell? ⟨xg, xoff + k * 3 + 2, none⟩ = some (.int .i64 x2) := xhec 2 (by simp)
      clear xhec xel xle
      have HX : Hid (bs[k] = mkBk x0 x1 x2) := xH
      have HS : Hid (sumF bnt (bs.take (k + 1)) = sumF bnt (bs.take k) + x2) := Hid.intro (by rw [sumF_succ bnt hlt, xH.out]; rfl)
      have hx : 0 ≤ x2 ∧ x2 ≤ 1000000 := by have := HG.out.nt bs[k] (List.getElem_mem hlt); rw [xH.out] at this; exact this
      have HB3 : Hid (Bx (wr.alloc (.cells #[.int .i64 x0, .bool x1, .int .i64 x2] 80)) w.heap.size [.slice (some ⟨xg, xoff, none⟩) bs.length k1, .slice a2 ws.length k2] ∧ Below w1.heap.size w1 (wr.alloc (.cells #[.int .i64 x0, .bool x1, .int .i64 x2] 80))) := ⟨HB2.out.1.alloc _, HB2.out.2.alloc HB2.out.2.size _⟩
      clear xH HLE
      obtain ⟨y, hy⟩ : ∃ y : Int, y = x2 := ⟨_, rfl⟩
      subst hy
      have hx : (0 : Int) ≤ y ∧ y ≤ (1000000 : Int) := hx
      obtain ⟨hx0, hx1⟩ := hx
      generalize sumF bnt (bs.take k) = q at hs0 hs1 HS ⊢
      have hw : IntKind.i64.wrap (q + y) = q + y := w64f (by omega) (by omega)
      go_wp2
      go_roundw
      case rel => exact ⟨k + 1, by omega, by go_num, by rw [HS.out], HB3.out⟩
      case measure => simp [intOf]; omega
    · have HE : Hid (sumF bnt (bs.take k) = sumF bnt bs) := Hid.intro (by rw [show k = bs.length by omega, List.take_length])
      generalize sumF bnt (bs.take k) = q at hs0 hs1 HE ⊢
      have s0 := (HB2.out.1).cell 0 rfl; have s1 := (HB2.out.1).cell 1 rfl; have sz := (HB2.out.1).2
      go_wp2
      clear s0 s1 sz
      obtain ⟨w2, hw2⟩ : ∃ x, x = wr := ⟨_, rfl⟩
      subst hw2
      go_loopw [30, 5] (fun v30 vs wr => ∃ i : Nat, i ≤ ws.length ∧ v30 = .int .i64 i ∧ vs = .int .i64 (q + sumF seN (ws.take i)) ∧ Below w2.heap.size w2 wr) (fun v30 _ _ => ws.length - (intOf v30).toNat)
      case atStart => exact ⟨0, Nat.zero_le _, rfl, by simp [sumF], Below.refl _ _⟩
      case round =>
        obtain ⟨i, hi, rfl, rfl, hBr⟩ := hrel
        have HB4 := Hid.intro hBr
        clear hBr
        obtain ⟨ht0, ht1⟩ := sumF_take seN (k := i) HG.out.se hnw (by decide)
        by_cases hli : i < ws.length
        · have hli' : (i : Int) < (ws.length : Int) := by omega
          have HLE : Hid (Lies wr (.list shWay) [.slice a2 ws.length k2] ws) := ((HL.out.2.next HB1.out.2.2).next HB2.out.2).next HB4.out
          obtain ⟨zg, zoff, zgo, zgs, zec, zel, zhec, zle⟩ := Lies.elem (HLE.out) hli
          subst zgo
          rcases zX : ws[i] with ⟨z0, z1, z2, z3, z4, ⟨⟩⟩
          rw [zX] at zle
          have zH : Hid (ws[i] = (z0, z1, z2, z3, z4, ())) := zX
          clear zX
          obtain ⟨za1, zk1, za2, zk2, zev, zq1, zq2⟩ := lies_Way zle
          subst zev
          have zc0 : wr.cell? ⟨zg, zoff + i * 5, none⟩ = some (.int .i64 z0) := zhec 0 (by simp)
          have zc1 : wr.cell? ⟨zg, zoff + i * 5 + 1, none⟩ = some (.int .i64 z1) := zhec 1 (by simp)
          have zc2 : wr.cell? ⟨zg, zoff + i * 5 + 2, none⟩ = some (.slice za1 z2.length zk1) := zhec 2 (by simp)
          have zc3 : wr.cell? ⟨zg, zoff + i * 5 + 3, none⟩ = some (.bool z3) := zhec 3 (by simp)
          have zc4 : wr.cell? ⟨zg, zoff + i * 5 + 4, none⟩ = some (.slice za2 z4.length zk2) := zhec 4 (by simp)
          clear zhec zel zle
          have HX : Hid (ws[i] = mkWy z0 z1 z2 z3 z4) := zH
          have HS2 : Hid (sumF seN (ws.take (i + 1)) = sumF seN (ws.take i) + sumF idI z4) := Hid.intro (by rw [sumF_succ seN hli, zH.out]; rfl)
          have hpl : z4.length ≤ 200 ∧ ∀ p ∈ z4, 0 ≤ idI p ∧ idI p ≤ 1000000 := by have := HG.out.sl ws[i] (List.getElem_mem hli); rw [zH.out] at this; exact this
          have HPL := Hid.intro hpl.2
          have hp20 := hpl.1
          obtain ⟨w3, hw3⟩ : ∃ x, x = wr.alloc (.cells #[.int .i64 z0, .int .i64 z1, .slice za1 z2.length zk1, .bool z3, .slice za2 z4.length zk2] 83) := ⟨_, rfl⟩
          have hb3 : Below wr.heap.size wr w3 := hw3 ▸ Go.Joins.below_alloc1 _ _
          obtain ⟨pb, hpb⟩ : ∃ p, p = wr.heap.size := ⟨_, rfl⟩
          have HB5 : Hid (Below w2.heap.size w2 w3 ∧ Bx w3 pb [.int .i64 z0, .int .i64 z1, .slice za1 z2.length zk1, .bool z3, .slice za2 z4.length zk2]) := ⟨below_next HB4.out hb3, by rw [hpb]; exact hw3 ▸ Bx.new wr [_, _, _, _, _] _⟩
          have HLP : Hid (Lies w3 (.list .int) [.slice za2 z4.length zk2] z4) := zq2.next hb3
          clear zH HLE hpl zq1 zq2 hb3
          obtain ⟨qq, hqq⟩ : ∃ x, x = q + sumF seN (ws.take i) := ⟨_, rfl⟩
          have HQQ := Hid.intro hqq
          have hqq0 : 0 ≤ qq ∧ qq ≤ 4005000000 := by omega
          rw [← hqq]
          clear hqq
          go_upto_region 12 with fail
          rw [← hw3]
          have hps : pb = wr.heap.size := hpb
          rw [← hps]
          clear hw3 zc0 zc1 zc2 zc3 zc4 zgs HB4 hpb hps
          obtain ⟨wv, hwv⟩ : ∃ x, x = wr := ⟨_, rfl⟩
          subst hwv
          have m0 := (HB5.out.2).cell 0 rfl; have m1 := (HB5.out.2).cell 1 rfl; have m2 := (HB5.out.2).cell 2 rfl; have m3 := (HB5.out.2).cell 3 rfl; have m4 := (HB5.out.2).cell 4 rfl; have mz := (HB5.out.2).2
          go_wp2
          go_loopw [37, 5] (fun v37 vs wr => ∃ j : Nat, j ≤ z4.length ∧ v37 = .int .i64 j ∧ vs = .int .i64 (qq + sumF idI (z4.take j)) ∧ wr = w3) (fun v37 _ _ => z4.length - (intOf v37).toNat)
          case atStart => exact ⟨0, Nat.zero_le _, rfl, by simp [sumF], rfl⟩
          case round =>
            obtain ⟨j, hj, rfl, rfl, rfl⟩ := hrel
            obtain ⟨hu0, hu1⟩ := sumF_take idI (k := j) HPL.out hp20 (by decide)
            by_cases hlj : j < z4.length
            · have hlj' : (j : Int) < (z4.length : Int) := by omega
              obtain ⟨gr, og, har, hcr, hgr⟩ := lies_at HLP.out hlj
              subst har
              have HS3 : Hid (sumF idI (z4.take (j + 1)) = sumF idI (z4.take j) + atI z4 j) := Hid.intro (by rw [sumF_succ idI hlj, atI_lt hlj]; rfl)
              have hm : 0 ≤ atI z4 j ∧ atI z4 j ≤ 1000000 := by rw [atI_lt hlj]; exact HPL.out z4[j] (List.getElem_mem hlj)
              generalize atI z4 j = y at hm HS3 hcr
              obtain ⟨hm0, hm1⟩ := hm
              generalize sumF idI (z4.take j) = u at hu0 hu1 HS3 ⊢
              have hw : IntKind.i64.wrap (qq + u + y) = qq + u + y := w64f (by omega) (by omega)
              go_wp2
              go_roundw
              case rel => exact ⟨j + 1, by omega, by go_num, by rw [HS3.out, Int.add_assoc], trivial⟩
              case measure => simp [intOf]; omega
            · have HE2 : Hid (qq + sumF idI (z4.take j) = q + sumF seN (ws.take (i + 1))) := Hid.intro (by rw [show j = z4.length by omega, List.take_length, HS2.out, HQQ.out, Int.add_assoc])
              generalize qq + sumF idI (z4.take j) = u at HE2 ⊢
              go_wp2
              go_roundw
              case rel => exact ⟨i + 1, by omega, by go_num, by rw [HE2.out], HB5.out.1⟩
              case measure => simp [intOf]; omega
        · have HE2 : Hid (q + sumF seN (ws.take i) = picN bs ws) := Hid.intro (by rw [show i = ws.length by omega, List.take_length, HE.out]; rfl)
          generalize q + sumF seN (ws.take i) = u at HE2 ⊢
          have HBX : Hid (Bx wr w.heap.size [.slice a1 bs.length k1, .slice a2 ws.length k2] ∧ Below w.heap.size w wr) := ⟨HB2.out.1.next HB4.out, below_next HB1.out.2.1 (below_next HB2.out.2 HB4.out)⟩
          have HLL : Hid (Lies wr (.list shBank) [.slice a1 bs.length k1] bs ∧ Lies wr (.list shWay) [.slice a2 ws.length k2] ws) := ⟨((HL.out.1.next HB1.out.2.2).next HB2.out.2).next HB4.out, ((HL.out.2.next HB1.out.2.2).next HB2.out.2).next HB4.out⟩
          have s0 := (HBX.out.1).cell 0 rfl; have s1 := (HBX.out.1).cell 1 rfl; have sz := (HBX.out.1).2
          go_wp2_with (go_at_call 49; refine (isWhole_n a1 k1 a2 k2 bs ws _ hn1 hn2 HLL.out.1 HLL.out.2).mono ?_; rintro e w4 ⟨rfl, hb⟩; have HB6 : Hid (Below w.heap.size w w4) := below_next HBX.out.2 hb; clear hb)
          go_ret3
          exact ⟨by rw [HN.out, HE2.out]; rfl, HB6.out⟩

set_option maxRecDepth 100000 in
set_option maxHeartbeats 8000000 in
theorem l13Picture_n (cs : List Value) (bs : List (Sh.T shBank)) (ws : List (Sh.T shWay)) (w : World) (hG : NetB bs ws) (h : Lies w shNet cs (bs, ws, ())) : Calls Try.prog 61 #[.agg cs.toArray] w (PcP (picN bs ws, wholeB bs ws) w) := by
  obtain ⟨a1, k1, a2, k2, rfl, h1, h2⟩ := lies_Net h
  obtain ⟨w0, hw0⟩ : ∃ x, x = (w.alloc (.cells #[.slice a1 bs.length k1, .slice a2 ws.length k2] 30)) := ⟨_, rfl⟩
  have hb0 : Below w.heap.size w w0 := hw0 ▸ Go.Joins.below_alloc1 _ _
  have HB0 : Hid (Bx w0 w.heap.size [.slice a1 bs.length k1, .slice a2 ws.length k2] ∧ Below w.heap.size w w0 ∧ Lies w0 shNet [.slice a1 bs.length k1, .slice a2 ws.length k2] (bs, ws, ())) := ⟨hw0 ▸ Bx.new w [_, _] _, hb0, h.next hb0⟩
  have HL : Hid (Lies w0 (.list shBank) [.slice a1 bs.length k1] bs ∧ Lies w0 (.list shWay) [.slice a2 ws.length k2] ws) := ⟨h1.next hb0, h2.next hb0⟩
  have HG := Hid.intro hG
  clear h h1 h2 hb0 hG
  go_enter Try.func61, Try.ntmps61
  go_upto_region 1 with fail
  rw [← hw0]
  clear hw0
  obtain ⟨w1, hw1⟩ : ∃ x, x = w0 := ⟨_, rfl⟩
  have HB1 : Hid (Bx w1 w.heap.size [.slice a1 bs.length k1, .slice a2 ws.length k2] ∧ Below w.heap.size w w1 ∧ Below w0.heap.size w0 w1) := by rw [hw1]; exact ⟨HB0.out.1, HB0.out.2.1, Below.refl _ _⟩
  rw [← hw1]
  clear hw1
  have hnb := HG.out.nb
  have hnw := HG.out.nw
  clear HB0
  have s0 := (HB1.out.1).cell 0 rfl; have s1 := (HB1.out.1).cell 1 rfl; have sz := (HB1.out.1).2
  go_wp2
  clear s0 s1 sz
  go_loopw [15, 4, 5] (fun v15 vs v5 wr => ∃ k : Nat, k ≤ bs.length ∧ v15 = .int .i64 k ∧ vs = .int .i64 (sumF bnt (bs.take k)) ∧ v5 = .bool ((bs.take k).all bmk) ∧ Bx wr w.heap.size [.slice a1 bs.length k1, .slice a2 ws.length k2] ∧ Below w1.heap.size w1 wr) (fun v15 _ _ _ => bs.length - (intOf v15).toNat)
  case atStart => exact ⟨0, Nat.zero_le _, rfl, rfl, rfl, HB1.out.1, Below.refl _ _⟩
  case round =>
    obtain ⟨k, hk, rfl, rfl, rfl, hbx, hBr⟩ := hrel
    have HB2 : Hid (Bx wr w.heap.size [.slice a1 bs.length k1, .slice a2 ws.length k2] ∧ Below w1.heap.size w1 wr) := ⟨hbx, hBr⟩
    clear hbx hBr
    obtain ⟨hs0, hs1⟩ := sumF_take bnt (k := k) HG.out.nt hnb (by decide)
    by_cases hlt : k < bs.length
    · have hlt' : (k : Int) < (bs.length : Int) := by omega
      have HLE : Hid (Lies wr (.list shBank) [.slice a1 bs.length k1] bs) := (HL.out.1.next HB1.out.2.2).next HB2.out.2
      obtain ⟨xg, xoff, xgo, xgs, xec, xel, xhec, xle⟩ := Lies.elem (HLE.out) hlt
      subst xgo
      rcases xX : bs[k] with ⟨x0, x1, x2, ⟨⟩⟩
      rw [xX] at xle
      have xH : Hid (bs[k] = (x0, x1, x2, ())) := xX
      clear xX
      obtain xev := lies_Bank xle
      subst xev
      have xc0 : wr.cell? ⟨xg, xoff + k * 3, none⟩ = some (.int .i64 x0) := xhec 0 (by simp)
      have xc1 : wr.cell? ⟨xg, xoff + k * 3 + 1, none⟩ = some (.bool x1) := xhec 1 (by simp)
      have xc2 : wr.cell? ⟨xg, xoff + k * 3 + 2, none⟩ = some (.int .i64 x2) := xhec 2 (by simp)
      clear xhec xel xle
      have HX : Hid (bs[k] = mkBk x0 x1 x2) := xH
      have HS : Hid (sumF bnt (bs.take (k + 1)) = sumF bnt (bs.take k) + x2) := Hid.intro (by rw [sumF_succ bnt hlt, xH.out]; rfl)
      have hx : 0 ≤ x2 ∧ x2 ≤ 1000000 := by have := HG.out.nt bs[k] (List.getElem_mem hlt); rw [xH.out] at this; exact this
      have HB3 : Hid (Bx (wr.alloc (.cells #[.int .i64 x0, .bool x1, .int .i64 x2] 80)) w.heap.size [.slice (some ⟨xg, xoff, none⟩) bs.length k1, .slice a2 ws.length k2] ∧ Below w1.heap.size w1 (wr.alloc (.cells #[.int .i64 x0, .bool x1, .int .i64 x2] 80))) := ⟨HB2.out.1.alloc _, HB2.out.2.alloc HB2.out.2.size _⟩
      clear xH HLE
      obtain ⟨y, hy⟩ : ∃ y : Int, y = x2 := ⟨_, rfl⟩
      subst hy
      have hx : (0 : Int) ≤ y ∧ y ≤ (1000000 : Int) := hx
      obtain ⟨hx0, hx1⟩ := hx
      generalize sumF bnt (bs.take k) = q at hs0 hs1 HS ⊢
      have hw : IntKind.i64.wrap (q + y) = q + y := w64f (by omega) (by omega)
      have HAL : Hid ((bs.take (k + 1)).all bmk = ((bs.take k).all bmk && x1)) := Hid.intro (by rw [List.take_succ_eq_append_getElem hlt, List.all_append, HX.out]; simp; rfl)
      generalize (bs.take k).all bmk = B5 at HAL ⊢
      cases B5 <;> cases x1
      all_goals
        go_wp2
        go_roundw
        case rel => exact ⟨k + 1, by omega, by go_num, by rw [HS.out], by rw [HAL.out]; rfl, HB3.out⟩
        case measure => simp [intOf]; omega
    · have HE : Hid (sumF bnt (bs.take k) = sumF bnt bs) := Hid.intro (by rw [show k = bs.length by omega, List.take_length])
      have HEA : Hid ((bs.take k).all bmk = bs.all bmk) := Hid.intro (by rw [show k = bs.length by omega, List.take_length])
      rw [HEA.out]
      generalize sumF bnt (bs.take k) = q at hs0 hs1 HE ⊢
      have s0 := (HB2.out.1).cell 0 rfl; have s1 := (HB2.out.1).cell 1 rfl; have sz := (HB2.out.1).2
      go_wp2
      clear s0 s1 sz
      obtain ⟨w2, hw2⟩ : ∃ x, x = wr := ⟨_, rfl⟩
      subst hw2
      go_loopw [32, 4, 5] (fun v32 vs v5 wr => ∃ i : Nat, i ≤ ws.length ∧ v32 = .int .i64 i ∧ vs = .int .i64 (q + sumF seN (ws.take i)) ∧ v5 = .bool (bs.all bmk && !(ws.take i).any wwt) ∧ Below w2.heap.size w2 wr) (fun v32 _ _ _ => ws.length - (intOf v32).toNat)
      case atStart => exact ⟨0, Nat.zero_le _, rfl, by simp [sumF], by simp, Below.refl _ _⟩
      case round =>
        obtain ⟨i, hi, rfl, rfl, rfl, hBr⟩ := hrel
        have HB4 := Hid.intro hBr
        clear hBr
        obtain ⟨ht0, ht1⟩ := sumF_take seN (k := i) HG.out.se hnw (by decide)
        by_cases hli : i < ws.length
        · have hli' : (i : Int) < (ws.length : Int) := by omega
          have HLE : Hid (Lies wr (.list shWay) [.slice a2 ws.length k2] ws) := ((HL.out.2.next HB1.out.2.2).next HB2.out.2).next HB4.out
          obtain ⟨zg, zoff, zgo, zgs, zec, zel, zhec, zle⟩ := Lies.elem (HLE.out) hli
          subst zgo
          rcases zX : ws[i] with ⟨z0, z1, z2, z3, z4, ⟨⟩⟩
          rw [zX] at zle
          have zH : Hid (ws[i] = (z0, z1, z2, z3, z4, ())) := zX
          clear zX
          obtain ⟨za1, zk1, za2, zk2, zev, zq1, zq2⟩ := lies_Way zle
          subst zev
          have zc0 : wr.cell? ⟨zg, zoff + i * 5, none⟩ = some (.int .i64 z0) := zhec 0 (by simp)
          have zc1 : wr.cell? ⟨zg, zoff + i * 5 + 1, none⟩ = some (.int .i64 z1) := zhec 1 (by simp)
          have zc2 : wr.cell? ⟨zg, zoff + i * 5 + 2, none⟩ = some (.slice za1 z2.length zk1) := zhec 2 (by simp)
          have zc3 : wr.cell? ⟨zg, zoff + i * 5 + 3, none⟩ = some (.bool z3) := zhec 3 (by simp)
          have zc4 : wr.cell? ⟨zg, zoff + i * 5 + 4, none⟩ = some (.slice za2 z4.length zk2) := zhec 4 (by simp)
          clear zhec zel zle
          have HX : Hid (ws[i] = mkWy z0 z1 z2 z3 z4) := zH
          have HS2 : Hid (sumF seN (ws.take (i + 1)) = sumF seN (ws.take i) + sumF idI z4) := Hid.intro (by rw [sumF_succ seN hli, zH.out]; rfl)
          have hpl : z4.length ≤ 200 ∧ ∀ p ∈ z4, 0 ≤ idI p ∧ idI p ≤ 1000000 := by have := HG.out.sl ws[i] (List.getElem_mem hli); rw [zH.out] at this; exact this
          have HPL := Hid.intro hpl.2
          have hp20 := hpl.1
          have HAL : Hid ((bs.all bmk && !(ws.take (i + 1)).any wwt) = ((bs.all bmk && !(ws.take i).any wwt) && !z3)) := Hid.intro (by rw [List.take_succ_eq_append_getElem hli, List.any_append, HX.out]; show (bs.all bmk && !((ws.take i).any wwt || (z3 || false))) = _; cases bs.all bmk <;> cases (ws.take i).any wwt <;> cases z3 <;> rfl)
          generalize (bs.all bmk && !(ws.take i).any wwt) = B5 at HAL ⊢
          obtain ⟨w3, hw3⟩ : ∃ x, x = wr.alloc (.cells #[.int .i64 z0, .int .i64 z1, .slice za1 z2.length zk1, .bool z3, .slice za2 z4.length zk2] 83) := ⟨_, rfl⟩
          have hb3 : Below wr.heap.size wr w3 := hw3 ▸ Go.Joins.below_alloc1 _ _
          obtain ⟨pb, hpb⟩ : ∃ p, p = wr.heap.size := ⟨_, rfl⟩
          have HB5 : Hid (Below w2.heap.size w2 w3 ∧ Bx w3 pb [.int .i64 z0, .int .i64 z1, .slice za1 z2.length zk1, .bool z3, .slice za2 z4.length zk2]) := ⟨below_next HB4.out hb3, by rw [hpb]; exact hw3 ▸ Bx.new wr [_, _, _, _, _] _⟩
          have HLP : Hid (Lies w3 (.list .int) [.slice za2 z4.length zk2] z4) := zq2.next hb3
          clear zH HLE hpl zq1 zq2 hb3
          obtain ⟨qq, hqq⟩ : ∃ x, x = q + sumF seN (ws.take i) := ⟨_, rfl⟩
          have HQQ := Hid.intro hqq
          have hqq0 : 0 ≤ qq ∧ qq ≤ 4005000000 := by omega
          rw [← hqq]
          clear hqq
          go_upto_region 12 with fail
          rw [← hw3]
          have hps : pb = wr.heap.size := hpb
          rw [← hps]
          clear hw3 zc0 zc1 zc2 zc3 zc4 zgs HB4 hpb hps
          obtain ⟨wv, hwv⟩ : ∃ x, x = wr := ⟨_, rfl⟩
          subst hwv
          have m0 := (HB5.out.2).cell 0 rfl; have m1 := (HB5.out.2).cell 1 rfl; have m2 := (HB5.out.2).cell 2 rfl; have m3 := (HB5.out.2).cell 3 rfl; have m4 := (HB5.out.2).cell 4 rfl; have mz := (HB5.out.2).2
          go_wp2
          go_loopw [39, 4] (fun v39 vs wr => ∃ j : Nat, j ≤ z4.length ∧ v39 = .int .i64 j ∧ vs = .int .i64 (qq + sumF idI (z4.take j)) ∧ wr = w3) (fun v39 _ _ => z4.length - (intOf v39).toNat)
          case atStart => exact ⟨0, Nat.zero_le _, rfl, by simp [sumF], rfl⟩
          case round =>
            obtain ⟨j, hj, rfl, rfl, rfl⟩ := hrel
            obtain ⟨hu0, hu1⟩ := sumF_take idI (k := j) HPL.out hp20 (by decide)
            by_cases hlj : j < z4.length
            · have hlj' : (j : Int) < (z4.length : Int) := by omega
              obtain ⟨gr, og, har, hcr, hgr⟩ := lies_at HLP.out hlj
              subst har
              have HS3 : Hid (sumF idI (z4.take (j + 1)) = sumF idI (z4.take j) + atI z4 j) := Hid.intro (by rw [sumF_succ idI hlj, atI_lt hlj]; rfl)
              have hm : 0 ≤ atI z4 j ∧ atI z4 j ≤ 1000000 := by rw [atI_lt hlj]; exact HPL.out z4[j] (List.getElem_mem hlj)
              generalize atI z4 j = y at hm HS3 hcr
              obtain ⟨hm0, hm1⟩ := hm
              generalize sumF idI (z4.take j) = u at hu0 hu1 HS3 ⊢
              have hw : IntKind.i64.wrap (qq + u + y) = qq + u + y := w64f (by omega) (by omega)
              go_wp2
              go_roundw
              case rel => exact ⟨j + 1, by omega, by go_num, by rw [HS3.out, Int.add_assoc], trivial⟩
              case measure => simp [intOf]; omega
            · have HE2 : Hid (qq + sumF idI (z4.take j) = q + sumF seN (ws.take (i + 1))) := Hid.intro (by rw [show j = z4.length by omega, List.take_length, HS2.out, HQQ.out, Int.add_assoc])
              generalize qq + sumF idI (z4.take j) = u at HE2 ⊢
              cases B5 <;> cases z3
              all_goals
                go_wp2
                go_roundw
                case rel => exact ⟨i + 1, by omega, by go_num, by rw [HE2.out], by rw [HAL.out]; rfl, HB5.out.1⟩
                case measure => simp [intOf]; omega
        · have HE2 : Hid (q + sumF seN (ws.take i) = picN bs ws) := Hid.intro (by rw [show i = ws.length by omega, List.take_length, HE.out]; rfl)
          generalize q + sumF seN (ws.take i) = u at HE2 ⊢
          have HE3 : Hid ((bs.all bmk && !(ws.take i).any wwt) = wholeB bs ws) := Hid.intro (by rw [show i = ws.length by omega, List.take_length]; rfl)
          rw [HE3.out]
          generalize wholeB bs ws = wb at *
          go_wp2
          go_ret2
          exact ⟨by rw [HE2.out]; rfl, below_next HB1.out.2.1 (below_next HB2.out.2 HB4.out)⟩

set_option maxRecDepth 100000 in
set_option maxHeartbeats 2000000 in
theorem specPictureOf_n (cs : List Value) (bs : List (Sh.T shBank)) (ws : List (Sh.T shWay)) (w : World) (hz : szD shNet (bs, ws, ()) ≤ 1073741824) (h : Lies w shNet cs (bs, ws, ())) : Calls Try.prog 24 #[.agg cs.toArray] w (PicP (picA bs ws) w) := by
  obtain ⟨a1, k1, a2, k2, rfl, h1, h2⟩ := lies_Net h
  obtain ⟨w0, hw0⟩ : ∃ x, x = (w.alloc (.cells #[.slice a1 bs.length k1, .slice a2 ws.length k2] 30)) := ⟨_, rfl⟩
  have hb0 : Below w.heap.size w w0 := hw0 ▸ Go.Joins.below_alloc1 _ _
  have HB0 : Hid (Bx w0 w.heap.size [.slice a1 bs.length k1, .slice a2 ws.length k2] ∧ Below w.heap.size w w0 ∧ Lies w0 shNet [.slice a1 bs.length k1, .slice a2 ws.length k2] (bs, ws, ())) := ⟨hw0 ▸ Bx.new w [_, _] _, hb0, h.next hb0⟩
  have HC : Hid (∀ W, Below w0.heap.size w0 W → Calls Try.prog 19 #[.agg #[.slice a1 bs.length k1, .slice a2 ws.length k2]] W fun r w' => r = .returned (.bool (tf (goodN bs ws))) ∧ Below W.heap.size W w') := Hid.intro (fun W hW => specGoodNet_n _ bs ws W hz (HB0.out.2.2.next hW))
  clear h h1 h2 hb0
  go_enter Try.func24, Try.ntmps24
  go_upto_region 1 with fail
  rw [← hw0]
  clear hw0
  have s0 := (HB0.out.1).cell 0 rfl; have s1 := (HB0.out.1).cell 1 rfl; have sz := (HB0.out.1).2
  go_wp2_with fail
  refine (HC.out _ (Below.refl _ _)).mono ?_
  rintro r w1 ⟨rfl, hb⟩
  have HB1 : Hid (Bx w1 w.heap.size [.slice a1 bs.length k1, .slice a2 ws.length k2] ∧ Below w.heap.size w w1 ∧ Lies w1 shNet [.slice a1 bs.length k1, .slice a2 ws.length k2] (bs, ws, ())) := ⟨HB0.out.1.next hb, below_next HB0.out.2.1 hb, HB0.out.2.2.next hb⟩
  clear hb s0 s1 sz HC
  cases e : tf (goodN bs ws)
  · have HN := Hid.intro (picA_no e)
    clear e
    go_wp2
    go_ret3
    exact ⟨by rw [HN.out]; rfl, HB1.out.2.1⟩
  have HN := Hid.intro (picA_yes e)
  have HP : Hid (∀ W, Below w1.heap.size w1 W → Calls Try.prog 61 #[.agg #[.slice a1 bs.length k1, .slice a2 ws.length k2]] W (PcP (picN bs ws, wholeB bs ws) W)) := Hid.intro (fun W hW => l13Picture_n _ bs ws W (good_b (tf_iff.1 e)) (HB1.out.2.2.next hW))
  clear e
  have s0 := (HB1.out.1).cell 0 rfl; have s1 := (HB1.out.1).cell 1 rfl; have sz := (HB1.out.1).2
  go_wp2_with (go_at_call 61; refine (HP.out _ (Below.refl _ _)).mono ?_; rintro e w2 ⟨rfl, hb⟩; have HB2 : Hid (Below w.heap.size w w2) := below_next HB1.out.2.1 hb; clear hb)
  go_ret3
  exact ⟨by rw [HN.out]; rfl, HB2.out⟩
end Go.Proofs.Ytcklpcdgckkahaa
