/- Fences: impl.LeastEpoch of a good fence. -/
import Derived.Test.YtcbdlalpnlahcaaFgI
import Derived.Test.YtcbdlalpnlahcaaFeU
namespace Go.Proofs.Ytcbdlalpnlahcaa
open Go.RowKit
set_option linter.unusedVariables false
set_option linter.unusedSimpArgs false

/-- The least of ep and the first k members' epochs. -/
def leI (ep : Int) (ms : List (Sh.T shMember)) : Nat → Int
  | 0 => ep
  | k + 1 => if epAt ms k < leI ep ms k then epAt ms k else leI ep ms k
theorem leI_eq {ep : Int} {ms : List (Sh.T shMember)} (h : epAt ms 0 ≤ ep) : ∀ k, leI ep ms (k + 1) = leastE ms (k + 1)
  | 0 => by
    have e1 : leI ep ms 1 = if epAt ms 0 < ep then epAt ms 0 else ep := rfl
    have e2 : leastE ms 1 = if epAt ms 0 < epAt ms 0 then epAt ms 0 else epAt ms 0 := rfl
    rw [e1, e2, if_neg (show ¬ epAt ms 0 < epAt ms 0 by omega)]
    by_cases c : epAt ms 0 < ep
    · rw [if_pos c]
    · rw [if_neg c]; omega
  | k + 1 => by rw [leI, leastE, leI_eq h k]

set_option maxRecDepth 100000 in
set_option maxHeartbeats 2000000 in
theorem leastEpoch_y (cs : List Value) (ep du : Int) (ms : List (Sh.T shMember)) (en : List (Sh.T .int)) (w : World) (hG : goodF ep du ms en) (h : Lies w shFence cs (ep, du, ms, en, ())) :
    Calls Try.prog 15 #[.agg cs.toArray] w (NbP (leastE ms ms.length, true) w) := by
  obtain ⟨a1, k1, a2, k2, rfl, h1, h2⟩ := lies_Fence h
  have HL : Hid (FeL w a1 k1 a2 k2 ms en) := ⟨h1, h2⟩
  have HG := Hid.intro hG
  have hm8 := hG.2.2.1
  clear h h1 h2 hG
  have HE : Hid (leI ep ms ms.length = leastE ms ms.length) := Hid.intro (by
    obtain ⟨n, hn⟩ : ∃ n, ms.length = n + 1 := ⟨ms.length - 1, by omega⟩
    rw [hn]
    refine leI_eq ?_ n
    rw [epAt_lt (by omega)]
    exact (HG.out.2.2.2.2.1 0 (by omega) (by omega)).1.2.1.2)
  have HB0 : Hid (Bx (w.alloc (.cells #[.int .i64 ep, .int .i64 du, .slice a1 ms.length k1, .slice a2 en.length k2] 29)) w.heap.size [.int .i64 ep, .int .i64 du, .slice a1 ms.length k1, .slice a2 en.length k2] ∧ Below w.heap.size w (w.alloc (.cells #[.int .i64 ep, .int .i64 du, .slice a1 ms.length k1, .slice a2 en.length k2] 29))) := ⟨Bx.new w [_, _, _, _] _, Go.Joins.below_alloc1 _ _⟩
  go_enter Try.func15, Try.ntmps15
  go_wp2_with fail
  refine (goodFence_y [.int .i64 ep, .int .i64 du, .slice a1 ms.length k1, .slice a2 en.length k2] ep du ms en _ HG.out (mk_Fence (HL.out.next HB0.out.2).1 (HL.out.next HB0.out.2).2)).mono ?_
  rintro r w1 ⟨rfl, hb⟩
  have HB1 : Hid (Bx w1 w.heap.size [.int .i64 ep, .int .i64 du, .slice a1 ms.length k1, .slice a2 en.length k2] ∧ Below w.heap.size w w1) := ⟨HB0.out.1.next hb, below_next HB0.out.2 hb⟩
  clear hb HB0
  have s0 := (HB1.out.1).cell 0 rfl; have s1 := (HB1.out.1).cell 1 rfl; have s2 := (HB1.out.1).cell 2 rfl; have s3 := (HB1.out.1).cell 3 rfl; have sz := (HB1.out.1).2
  go_wp2
  go_loopw [15, 4] (fun i v wr => ∃ k : Nat, k ≤ ms.length ∧ i = .int .i64 k ∧ v = .int .i64 (leI ep ms k) ∧ Below w.heap.size w wr) (fun i _ _ => ms.length - (intOf i).toNat)
  case atStart => exact ⟨0, Nat.zero_le _, rfl, rfl, HB1.out.2⟩
  case round =>
    obtain ⟨k, hk, rfl, rfl, hBr⟩ := hrel
    clear s0 s1 s2 s3 sz HB1
    have HB := Hid.intro hBr
    clear hBr
    by_cases hlt : k < ms.length
    · have hlt' : (k : Int) < (ms.length : Int) := by omega
      have HLE : Hid (Lies wr (.list shMember) [.slice a1 ms.length k1] ms) := Hid.intro (HL.out.1.next HB.out)
      obtain ⟨xg, xoff, xgo, xgs, xec, xel, xhec, xle⟩ := Lies.elem (HLE.out) hlt
      subst xgo
      rcases xX : ms[k] with ⟨x0, x1, x2, x3, ⟨⟩⟩
      rw [xX] at xle
      have xH : Hid (ms[k] = (x0, x1, x2, x3, ())) := xX
      clear xX
      obtain ⟨xa1, xk1, xev, xq1⟩ := lies_Member xle
      subst xev
      have xc0 : wr.cell? ⟨xg, xoff + k * 4, none⟩ = some (.int .i64 x0) := xhec 0 (by simp)
      have xc1 : wr.cell? ⟨xg, xoff + k * 4 + 1, none⟩ = some (.int .i64 x1) := xhec 1 (by simp)
      have xc2 : wr.cell? ⟨xg, xoff + k * 4 + 2, none⟩ = some (.slice xa1 x2.length xk1) := xhec 2 (by simp)
      have xc3 : wr.cell? ⟨xg, xoff + k * 4 + 3, none⟩ = some (.int .i64 x3) := xhec 3 (by simp)
      clear xhec xel xle
      have HX : Hid (epAt ms k = x1) := Hid.intro (by rw [epAt_lt hlt, xH.out]; rfl)
      have HB2 := Hid.intro (below_next HB.out (Go.Joins.below_alloc1 wr (.cells #[.int .i64 x0, .int .i64 x1, .slice xa1 x2.length xk1, .int .i64 x3] 37)))
      clear xq1
      obtain ⟨q, hq⟩ : ∃ q, q = leI ep ms k := ⟨_, rfl⟩
      rw [← hq]
      have HQ := Hid.intro hq
      clear hq
      obtain ⟨e, he⟩ : ∃ e : Int, e = x1 := ⟨_, rfl⟩
      by_cases hle : e < q
      · have HT : Hid (leI ep ms (k + 1) = e) := Hid.intro (by rw [leI, ← HQ.out, HX.out, if_pos (by rw [← he]; exact hle), he])
        subst he
        go_wp2
        go_roundw
        case rel => exact ⟨k + 1, by omega, by go_num, by rw [HT.out]; congr 1; omega, HB2.out⟩
        case measure => simp [intOf]; omega
      · have HT : Hid (leI ep ms (k + 1) = q) := Hid.intro (by rw [leI, ← HQ.out, HX.out, if_neg (by rw [← he]; exact hle)])
        subst he
        go_wp2
        go_roundw
        case rel => exact ⟨k + 1, by omega, by go_num, by rw [HT.out]; congr 1; omega, HB2.out⟩
        case measure => simp [intOf]; omega
    · have hkn : k = ms.length := by omega
      subst hkn
      go_wp2
      go_ret2
      exact ⟨nb_ret (congrArg (fun z : Int => (z, true)) HE.out.symm), HB.out⟩

end Go.Proofs.Ytcbdlalpnlahcaa
