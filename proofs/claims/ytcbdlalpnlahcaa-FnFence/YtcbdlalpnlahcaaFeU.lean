/- Fences: what lasts, and the least epoch, on the specification's side. -/
import Derived.Test.YtcbdlalpnlahcaaFeS
namespace Go.Proofs.Ytcbdlalpnlahcaa
open Go.RowKit
set_option linter.unusedVariables false
set_option linter.unusedSimpArgs false

/-- How many of the first k that ended are lasting. -/
def lastN (du : Int) (en : List (Sh.T .int)) : Nat → Nat
  | 0 => 0
  | k + 1 => lastN du en k + if atI en k ≤ du then 1 else 0
theorem lastN_le (du : Int) (en : List (Sh.T .int)) : ∀ k, lastN du en k ≤ k
  | 0 => Nat.le_refl _
  | k + 1 => by have := lastN_le du en k; rw [lastN]; split <;> omega
def epAt (ms : List (Sh.T shMember)) (k : Nat) : Int := match ms[k]? with | some m => mep m | none => 0
theorem epAt_lt {ms : List (Sh.T shMember)} {k : Nat} (h : k < ms.length) : epAt ms k = mep ms[k] := by unfold epAt; rw [List.getElem?_eq_getElem h]
/-- The least epoch of the first k, the first one ahead of all. -/
def leastE (ms : List (Sh.T shMember)) : Nat → Int
  | 0 => epAt ms 0
  | k + 1 => if epAt ms k < leastE ms k then epAt ms k else leastE ms k
/-- A number and whether it is one. -/
def NbP (A : Int × Bool) (w : World) (r : Ending) (w' : World) : Prop := r = .returned (.tuple #[.int .i64 A.1, .bool A.2]) ∧ Below w.heap.size w w'
theorem nb_ret {A : Int × Bool} {t : Int} {b : Bool} (h : A = (t, b)) : Ending.returned (.tuple #[.int .i64 t, .bool b]) = .returned (.tuple #[.int .i64 A.1, .bool A.2]) := by rw [h]
noncomputable def laA (ep du : Int) (ms : List (Sh.T shMember)) (en : List (Sh.T .int)) : Int × Bool := open Classical in if goodF ep du ms en then (((lastN du en en.length : Nat) : Int), true) else (0, false)
noncomputable def leA (ep du : Int) (ms : List (Sh.T shMember)) (en : List (Sh.T .int)) : Int × Bool := open Classical in if goodF ep du ms en then (leastE ms ms.length, true) else (0, false)

set_option maxRecDepth 100000 in
set_option maxHeartbeats 2000000 in
theorem specLastingIn_n (cs : List Value) (ep du : Int) (ms : List (Sh.T shMember)) (en : List (Sh.T .int)) (w : World) (hz : szD shFence (ep, du, ms, en, ()) ≤ 1073741824) (h : Lies w shFence cs (ep, du, ms, en, ())) :
    Calls Try.prog 20 #[.agg cs.toArray] w (NbP (laA ep du ms en) w) := by
  obtain ⟨a1, k1, a2, k2, rfl, h1, h2⟩ := lies_Fence h
  have HL : Hid (FeL w a1 k1 a2 k2 ms en) := ⟨h1, h2⟩
  have HZ : Hid (szD shFence (ep, du, ms, en, ()) ≤ 1073741824) := hz
  have hze := (fe_sizes hz).2.1
  clear h h1 h2 hz
  have HB0 : Hid (Bx (w.alloc (.cells #[.int .i64 ep, .int .i64 du, .slice a1 ms.length k1, .slice a2 en.length k2] 29)) w.heap.size [.int .i64 ep, .int .i64 du, .slice a1 ms.length k1, .slice a2 en.length k2] ∧ Below w.heap.size w (w.alloc (.cells #[.int .i64 ep, .int .i64 du, .slice a1 ms.length k1, .slice a2 en.length k2] 29))) := ⟨Bx.new w [_, _, _, _] _, Go.Joins.below_alloc1 _ _⟩
  go_enter Try.func20, Try.ntmps20
  go_wp2_with fail
  refine (specGoodFence_n [.int .i64 ep, .int .i64 du, .slice a1 ms.length k1, .slice a2 en.length k2] ep du ms en _ HZ.out (mk_Fence (HL.out.next HB0.out.2).1 (HL.out.next HB0.out.2).2)).mono ?_
  rintro r w1 ⟨rfl, hb⟩
  have HB1 : Hid (Bx w1 w.heap.size [.int .i64 ep, .int .i64 du, .slice a1 ms.length k1, .slice a2 en.length k2] ∧ Below w.heap.size w w1) := ⟨HB0.out.1.next hb, below_next HB0.out.2 hb⟩
  clear hb HB0
  by_cases c0 : goodF ep du ms en
  case neg =>
    have HN : Hid (laA ep du ms en = (0, false)) := Hid.intro (by unfold laA; rw [if_neg c0])
    rw [tf_no c0]
    clear c0
    go_wp2
    go_ret2
    exact ⟨nb_ret HN.out, HB1.out.2⟩
  have HN : Hid (laA ep du ms en = (((lastN du en en.length : Nat) : Int), true)) := Hid.intro (by unfold laA; rw [if_pos c0])
  rw [tf_yes c0]
  clear c0
  have s0 := (HB1.out.1).cell 0 rfl; have s1 := (HB1.out.1).cell 1 rfl; have s2 := (HB1.out.1).cell 2 rfl; have s3 := (HB1.out.1).cell 3 rfl; have sz := (HB1.out.1).2
  go_wp2
  go_loopw [13, 4] (fun i v wr => ∃ k : Nat, k ≤ en.length ∧ i = .int .i64 k ∧ v = .int .i64 ((lastN du en k : Nat) : Int) ∧ Bx wr w.heap.size [.int .i64 ep, .int .i64 du, .slice a1 ms.length k1, .slice a2 en.length k2] ∧ Below w.heap.size w wr) (fun i _ _ => en.length - (intOf i).toNat)
  case atStart => exact ⟨0, Nat.zero_le _, rfl, rfl, HB1.out⟩
  case round =>
    obtain ⟨k, hk, rfl, rfl, hbx, hBr⟩ := hrel
    clear s0 s1 s2 s3 sz HB1
    have HB : Hid (Bx wr w.heap.size [.int .i64 ep, .int .i64 du, .slice a1 ms.length k1, .slice a2 en.length k2] ∧ Below w.heap.size w wr) := ⟨hbx, hBr⟩
    have s0 := (hbx).cell 0 rfl; have s1 := (hbx).cell 1 rfl; have s2 := (hbx).cell 2 rfl; have s3 := (hbx).cell 3 rfl; have sz := (hbx).2
    clear hbx hBr
    by_cases hlt : k < en.length
    · have hlt' : (k : Int) < (en.length : Int) := by omega
      obtain ⟨g, o, rfl, cr, hgz⟩ := lies_at (HL.out.2.next HB.out.2) hlt
      obtain ⟨e, he⟩ : ∃ y, y = atI en k := ⟨_, rfl⟩
      rw [← he] at cr
      have HE := Hid.intro he
      have hqk := lastN_le du en k
      obtain ⟨q, hq⟩ : ∃ q, q = lastN du en k := ⟨_, rfl⟩
      rw [← hq] at hqk ⊢
      have HQ := Hid.intro hq
      clear he hgz hq
      by_cases hle : e ≤ du
      · have HT : Hid (lastN du en (k + 1) = q + 1) := Hid.intro (by rw [lastN, ← HQ.out, if_pos (by rw [← HE.out]; exact hle)])
        go_wp2
        go_roundw
        case rel => exact ⟨k + 1, by omega, by go_num, by rw [HT.out]; go_num, HB.out⟩
        case measure => simp [intOf]; omega
      · have HT : Hid (lastN du en (k + 1) = q) := Hid.intro (by rw [lastN, ← HQ.out, if_neg (by rw [← HE.out]; exact hle), Nat.add_zero])
        go_wp2
        go_roundw
        case rel => exact ⟨k + 1, by omega, by go_num, by rw [HT.out], HB.out⟩
        case measure => simp [intOf]; omega
    · have hkn : k = en.length := by omega
      subst hkn
      go_wp2
      go_ret2
      exact ⟨nb_ret HN.out, HB.out.2⟩

set_option maxRecDepth 100000 in
set_option maxHeartbeats 2000000 in
theorem specLeastEpoch_n (cs : List Value) (ep du : Int) (ms : List (Sh.T shMember)) (en : List (Sh.T .int)) (w : World) (hz : szD shFence (ep, du, ms, en, ()) ≤ 1073741824) (h : Lies w shFence cs (ep, du, ms, en, ())) :
    Calls Try.prog 21 #[.agg cs.toArray] w (NbP (leA ep du ms en) w) := by
  obtain ⟨a1, k1, a2, k2, rfl, h1, h2⟩ := lies_Fence h
  have HL : Hid (FeL w a1 k1 a2 k2 ms en) := ⟨h1, h2⟩
  have HZ : Hid (szD shFence (ep, du, ms, en, ()) ≤ 1073741824) := hz
  have hzm := (fe_sizes hz).1
  clear h h1 h2 hz
  have HB0 : Hid (Bx (w.alloc (.cells #[.int .i64 ep, .int .i64 du, .slice a1 ms.length k1, .slice a2 en.length k2] 29)) w.heap.size [.int .i64 ep, .int .i64 du, .slice a1 ms.length k1, .slice a2 en.length k2] ∧ Below w.heap.size w (w.alloc (.cells #[.int .i64 ep, .int .i64 du, .slice a1 ms.length k1, .slice a2 en.length k2] 29))) := ⟨Bx.new w [_, _, _, _] _, Go.Joins.below_alloc1 _ _⟩
  go_enter Try.func21, Try.ntmps21
  go_wp2_with fail
  refine (specGoodFence_n [.int .i64 ep, .int .i64 du, .slice a1 ms.length k1, .slice a2 en.length k2] ep du ms en _ HZ.out (mk_Fence (HL.out.next HB0.out.2).1 (HL.out.next HB0.out.2).2)).mono ?_
  rintro r w1 ⟨rfl, hb⟩
  have HB1 : Hid (Bx w1 w.heap.size [.int .i64 ep, .int .i64 du, .slice a1 ms.length k1, .slice a2 en.length k2] ∧ Below w.heap.size w w1) := ⟨HB0.out.1.next hb, below_next HB0.out.2 hb⟩
  clear hb HB0
  by_cases c0 : goodF ep du ms en
  case neg =>
    have HN : Hid (leA ep du ms en = (0, false)) := Hid.intro (by unfold leA; rw [if_neg c0])
    rw [tf_no c0]
    clear c0
    go_wp2
    go_ret2
    exact ⟨nb_ret HN.out, HB1.out.2⟩
  have HN : Hid (leA ep du ms en = (leastE ms ms.length, true)) := Hid.intro (by unfold leA; rw [if_pos c0])
  have hm0 : 0 < ms.length := by have := c0.2.2.1.1; omega
  have hm0' : (0 : Int) < (ms.length : Int) := by omega
  rw [tf_yes c0]
  clear c0
  have s0 := (HB1.out.1).cell 0 rfl; have s1 := (HB1.out.1).cell 1 rfl; have s2 := (HB1.out.1).cell 2 rfl; have s3 := (HB1.out.1).cell 3 rfl; have sz := (HB1.out.1).2
  have HL1 : Hid (Lies w1 (.list shMember) [.slice a1 ms.length k1] ms) := HL.out.1.next HB1.out.2
  obtain ⟨yg, yoff, ygo, ygs, yec, yel, yhec, yle⟩ := Lies.elem (HL1.out) hm0
  subst ygo
  rcases yX : ms[0] with ⟨y0, y1, y2, y3, ⟨⟩⟩
  rw [yX] at yle
  have yH : Hid (ms[0] = (y0, y1, y2, y3, ())) := yX
  clear yX
  obtain ⟨ya1, yk1, yev, yq1⟩ := lies_Member yle
  subst yev
  have yc0 : w1.cell? ⟨yg, yoff + 0 * 4, none⟩ = some (.int .i64 y0) := yhec 0 (by simp)
  have yc1 : w1.cell? ⟨yg, yoff + 0 * 4 + 1, none⟩ = some (.int .i64 y1) := yhec 1 (by simp)
  have yc2 : w1.cell? ⟨yg, yoff + 0 * 4 + 2, none⟩ = some (.slice ya1 y2.length yk1) := yhec 2 (by simp)
  have yc3 : w1.cell? ⟨yg, yoff + 0 * 4 + 3, none⟩ = some (.int .i64 y3) := yhec 3 (by simp)
  clear yhec yel yle
  rw [show yoff + 0 * 4 = yoff by omega] at yc0 yc1 yc2 yc3
  have HY : Hid (epAt ms 0 = y1) := Hid.intro (by rw [epAt_lt hm0, yH.out]; rfl)
  clear yq1
  go_wp2
  go_loopw [18, 4] (fun i v wr => ∃ k : Nat, k ≤ ms.length ∧ i = .int .i64 k ∧ v = .int .i64 (leastE ms k) ∧ Below w.heap.size w wr) (fun i _ _ => ms.length - (intOf i).toNat)
  case atStart => exact ⟨0, Nat.zero_le _, rfl, by rw [leastE, HY.out], HB1.out.2⟩
  case round =>
    obtain ⟨k, hk, rfl, rfl, hBr⟩ := hrel
    clear s0 s1 s2 s3 sz HB1 yc0 yc1 yc2 yc3
    have HB := Hid.intro hBr
    clear hBr
    by_cases hlt : k < ms.length
    · have hlt' : (k : Int) < (ms.length : Int) := by omega
      obtain ⟨ax, hax⟩ : ∃ a : Option Addr, a = some ⟨yg, yoff, none⟩ := ⟨_, rfl⟩
      have HLE : Hid (Lies wr (.list shMember) [.slice ax ms.length k1] ms) := Hid.intro (hax ▸ HL.out.1.next HB.out)
      obtain ⟨xg, xoff, xgo, xgs, xec, xel, xhec, xle⟩ := Lies.elem (HLE.out) hlt
      subst xgo
      rcases xX : ms[k] with ⟨x0, x1, x2, x3, ⟨⟩⟩
      rw [xX] at xle
      have xH : Hid (ms[k] = (x0, x1, x2, x3, ())) := xX
      clear xX
      obtain ⟨xa1, xk1, xev, xq1⟩ := lies_Member xle
      subst xev
      have xc0 : wr.cell? ⟨xg, xoff + k * 4, none⟩ = some (.int .i64 x0) := xhec 0 (by simp)
      have xc1 : wr.cell? ⟨xg, xoff + k * 4 + 1, none⟩ = some (.int .i64 x1) := xhec 1 (by simp)
      have xc2 : wr.cell? ⟨xg, xoff + k * 4 + 2, none⟩ = some (.slice xa1 x2.length xk1) := xhec 2 (by simp)
      have xc3 : wr.cell? ⟨xg, xoff + k * 4 + 3, none⟩ = some (.int .i64 x3) := xhec 3 (by simp)
      clear xhec xel xle
      simp only [Option.some.injEq, Addr.mk.injEq, and_true] at hax
      obtain ⟨rfl, rfl⟩ := hax
      have HX : Hid (epAt ms k = x1) := Hid.intro (by rw [epAt_lt hlt, xH.out]; rfl)
      have HB2 := Hid.intro (below_next HB.out (Go.Joins.below_alloc1 wr (.cells #[.int .i64 x0, .int .i64 x1, .slice xa1 x2.length xk1, .int .i64 x3] 37)))
      clear xq1
      obtain ⟨q, hq⟩ : ∃ q, q = leastE ms k := ⟨_, rfl⟩
      rw [← hq]
      have HQ := Hid.intro hq
      clear hq
      obtain ⟨e, he⟩ : ∃ e : Int, e = x1 := ⟨_, rfl⟩
      by_cases hle : e < q
      · have HT : Hid (leastE ms (k + 1) = e) := Hid.intro (by rw [leastE, ← HQ.out, HX.out, if_pos (by rw [← he]; exact hle), he])
        subst he
        go_wp2
        go_roundw
        case rel => exact ⟨k + 1, by omega, by go_num, by rw [HT.out], HB2.out⟩
        case measure => simp [intOf]; omega
      · have HT : Hid (leastE ms (k + 1) = q) := Hid.intro (by rw [leastE, ← HQ.out, HX.out, if_neg (by rw [← he]; exact hle)])
        subst he
        go_wp2
        go_roundw
        case rel => exact ⟨k + 1, by omega, by go_num, by rw [HT.out], HB2.out⟩
        case measure => simp [intOf]; omega
    · have hkn : k = ms.length := by omega
      subst hkn
      go_wp2
      go_ret2
      exact ⟨nb_ret HN.out, HB.out⟩

end Go.Proofs.Ytcbdlalpnlahcaa
