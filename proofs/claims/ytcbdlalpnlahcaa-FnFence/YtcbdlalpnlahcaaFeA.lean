/- Fences: how many run, where a member stands, on the specification's side. Written by tools/mkFeS.py. -/
import Derived.Test.YtcbdlalpnlahcaaFeG
import Derived.Test.YtcbdlalpnlahcaaMgA
import Derived.Test.YtcbdlalpnlahcaaRg2
import Derived.Test.YtcbdlalpnlahcaaProg
import Derived.WalkKit
import Derived.WalkSpells
import Derived.WalkLawsBesides
import Derived.Deep.QuietTactic
import Derived.BigQuiet
import Derived.Deep.RegionWith
import Derived.Deep.DeepCutAuto
namespace Go.Proofs.Ytcbdlalpnlahcaa
open Go.RowKit
set_option linter.unusedVariables false
set_option linter.unusedSimpArgs false

theorem w64f {n : Int} (h0 : -9223372036854775808 ≤ n) (h1 : n ≤ 9223372036854775807) : IntKind.i64.wrap n = n := by
  rw [IntKind.wrap_i64]; omega
theorem ret_int {a b : Int} (h : a = b) : Ending.returned (.int .i64 a) = .returned (.int .i64 b) := by rw [h]
/-- A fence that came in, as the walks take it. -/
def FeL (w : World) (a1 : Option Addr) (k1 : Nat) (a2 : Option Addr) (k2 : Nat) (ms : List (Sh.T shMember)) (en : List (Sh.T .int)) : Prop := Lies w (.list shMember) [.slice a1 ms.length k1] ms ∧ Lies w (.list .int) [.slice a2 en.length k2] en
theorem FeL.next {w w' : World} {a1 : Option Addr} {k1 : Nat} {a2 : Option Addr} {k2 : Nat} {ms : List (Sh.T shMember)} {en : List (Sh.T .int)} (h : FeL w a1 k1 a2 k2 ms en) (hb : Below w.heap.size w w') : FeL w' a1 k1 a2 k2 ms en := ⟨h.1.next hb, h.2.next hb⟩
theorem lies_at {w : World} {a : Option Addr} {cap k : Nat} {l : List (Sh.T .int)} (h : Lies w (.list .int) [.slice a l.length cap] l) (hk : k < l.length) : ∃ g o, a = some ⟨g, o, none⟩ ∧ w.cell? ⟨g, o + k, none⟩ = some (.int .i64 (atI l k)) ∧ g < w.heap.size := by
  rcases lies_sl h with q | ⟨b, off, rfl, hbs, hE⟩
  · omega
  · exact ⟨b, off, rfl, int_cell hE hk, hbs⟩

set_option maxRecDepth 100000 in
set_option maxHeartbeats 2000000 in
theorem l12Running_n (cs : List Value) (ep du : Int) (ms : List (Sh.T shMember)) (en : List (Sh.T .int)) (w : World) (hz : szD shFence (ep, du, ms, en, ()) ≤ 1073741824) (h : Lies w shFence cs (ep, du, ms, en, ())) :
    Calls Try.prog 47 #[.agg cs.toArray] w fun r w' => r = .returned (.int .i64 ((en.length + runN ms ms.length : Nat) : Int)) ∧ Below w.heap.size w w' := by
  obtain ⟨a1, k1, a2, k2, rfl, h1, h2⟩ := lies_Fence h
  have HL : Hid (FeL w a1 k1 a2 k2 ms en) := ⟨h1, h2⟩
  have HZ : Hid (szD shFence (ep, du, ms, en, ()) ≤ 1073741824) := hz
  have hzm := (fe_sizes hz).1
  have hze := (fe_sizes hz).2.1
  have hzs := (fe_sizes hz).2.2
  clear h h1 h2 hz
  obtain ⟨w0, hw0⟩ : ∃ x, x = (w.alloc (.cells #[.int .i64 ep, .int .i64 du, .slice a1 ms.length k1, .slice a2 en.length k2] 29)) := ⟨_, rfl⟩
  have HB0 : Hid (Bx w0 w.heap.size [.int .i64 ep, .int .i64 du, .slice a1 ms.length k1, .slice a2 en.length k2] ∧ Below w.heap.size w w0) := ⟨hw0 ▸ Bx.new w [_, _, _, _] _, hw0 ▸ Go.Joins.below_alloc1 _ _⟩
  have s0 := HB0.out.1.cell 0 rfl
  have s1 := HB0.out.1.cell 1 rfl
  have s2 := HB0.out.1.cell 2 rfl
  have s3 := HB0.out.1.cell 3 rfl
  have sz := HB0.out.1.2
  go_enter Try.func47, Try.ntmps47
  go_upto_region 1 with fail
  rw [← hw0]
  clear hw0
  go_wp2
  go_loopw [12, 3] (fun i v wr => ∃ k : Nat, k ≤ ms.length ∧ i = .int .i64 k ∧ v = .int .i64 ((en.length + runN ms k : Nat) : Int) ∧ Below w.heap.size w wr) (fun i _ _ => ms.length - (intOf i).toNat)
  case atStart => exact ⟨0, Nat.zero_le _, rfl, by simp [runN], HB0.out.2⟩
  case round =>
    obtain ⟨k, hk, rfl, rfl, hBr⟩ := hrel
    have HB := Hid.intro hBr
    clear hBr HB0 s0 s1 s2 s3 sz
    by_cases hlt : k < ms.length
    · have hlt' : (k : Int) < (ms.length : Int) := by omega
      have HLE : Hid (Lies wr (.list shMember) [.slice a1 ms.length k1] ms) := HL.out.1.next HB.out
      obtain ⟨xg, xoff, xgo, xgs, xec, xel, xhec, xle⟩ := Lies.elem (HLE.out) hlt
      subst xgo
      rcases xX : ms[k] with ⟨x0, x1, x2, x3, ⟨⟩⟩
      rw [xX] at xle
      have xH : Hid (ms[k] = (x0, x1, x2, x3, ())) := xX
      clear xX
      obtain ⟨xa1, xk1, xev, xq1⟩ := lies_Member xle
      subst xev
      have xc0 : wr.cell? ⟨xg, xoff + k * 4, none⟩ = some (.int .i64 x0) := xhec 0 (by simp)
      have xc1 : wr.cell? ⟨xg, xoff + k * 4 + 1, none⟩ = some (.int .i64 x1) := xhec 1 (by simp)
      have xc2 : wr.cell? ⟨xg, xoff + k * 4 + 2, none⟩ = some (.slice xa1 x2.length xk1) := xhec 2 (by simp)
      have xc3 : wr.cell? ⟨xg, xoff + k * 4 + 3, none⟩ = some (.int .i64 x3) := xhec 3 (by simp)
      clear xhec xel xle
      have HRS : Hid (runN ms (k + 1) = runN ms k + x2.length) := Hid.intro (by rw [runN_succ hlt, xH.out]; rfl)
      have hmo := runN_mono (ms := ms) (k := k + 1) (by omega)
      rw [HRS.out] at hmo
      have hsum : en.length + runN ms k + x2.length ≤ 1073741824 := by omega
      have HB2 := Hid.intro (below_next HB.out (Go.Joins.below_alloc1 wr (.cells #[.int .i64 x0, .int .i64 x1, .slice xa1 x2.length xk1, .int .i64 x3] 37)))
      obtain ⟨q, hq⟩ : ∃ q, q = en.length + runN ms k := ⟨_, rfl⟩
      have HQ := Hid.intro hq
      rw [← hq] at hsum ⊢
      clear hq hmo hzs xq1
      go_wp2
      go_roundw
      case rel => exact ⟨k + 1, by omega, by go_num, by rw [HRS.out, ← Nat.add_assoc, ← HQ.out]; congr 1, HB2.out⟩
      case measure => simp [intOf]; omega
    · have hkn : k = ms.length := by omega
      subst hkn
      go_wp2
      go_ret
      exact ⟨rfl, HB.out⟩

/-- Where a member stands in the list. -/
def atM (ms : List (Sh.T shMember)) (id : Int) : Int := match ms.findIdx? (fun m => decide (mid m = id)) with | some k => (k : Int) | none => -1
theorem atM_yes {ms : List (Sh.T shMember)} {id : Int} {k : Nat} (hk : k < ms.length) (h : mid ms[k] = id) (hn : ∀ j (h : j < ms.length), j < k → mid ms[j] ≠ id) : atM ms id = (k : Int) := by
  have : ms.findIdx? (fun m => decide (mid m = id)) = some k := by
    rw [List.findIdx?_eq_some_iff_getElem]
    exact ⟨hk, by simpa using h, fun j hj => by simpa using hn j (by omega) hj⟩
  unfold atM; rw [this]
theorem atM_no {ms : List (Sh.T shMember)} {id : Int} (hn : ∀ j (h : j < ms.length), mid ms[j] ≠ id) : atM ms id = -1 := by
  have : ms.findIdx? (fun m => decide (mid m = id)) = none := by
    rw [List.findIdx?_eq_none_iff]
    intro m hm
    obtain ⟨j, hj, rfl⟩ := List.getElem_of_mem hm
    simpa using hn j hj
  unfold atM; rw [this]

set_option maxRecDepth 100000 in
set_option maxHeartbeats 2000000 in
/-- Where a member stands, or -1. -/
theorem l12At_n (cs : List Value) (ep du : Int) (ms : List (Sh.T shMember)) (en : List (Sh.T .int)) (id : Int) (w : World) (hz : szD shFence (ep, du, ms, en, ()) ≤ 1073741824) (h : Lies w shFence cs (ep, du, ms, en, ())) :
    Calls Try.prog 64 #[.agg cs.toArray, .int .i64 id] w fun r w' => r = .returned (.int .i64 (atM ms id)) ∧ Below w.heap.size w w' := by
  obtain ⟨a1, k1, a2, k2, rfl, h1, h2⟩ := lies_Fence h
  have HL : Hid (FeL w a1 k1 a2 k2 ms en) := ⟨h1, h2⟩
  have HZ : Hid (szD shFence (ep, du, ms, en, ()) ≤ 1073741824) := hz
  have hzm := (fe_sizes hz).1
  have hze := (fe_sizes hz).2.1
  have hzs := (fe_sizes hz).2.2
  clear h h1 h2 hz
  obtain ⟨w0, hw0⟩ : ∃ x, x = (w.alloc (.cells #[.int .i64 ep, .int .i64 du, .slice a1 ms.length k1, .slice a2 en.length k2] 29)) := ⟨_, rfl⟩
  have HB0 : Hid (Bx w0 w.heap.size [.int .i64 ep, .int .i64 du, .slice a1 ms.length k1, .slice a2 en.length k2] ∧ Below w.heap.size w w0) := ⟨hw0 ▸ Bx.new w [_, _, _, _] _, hw0 ▸ Go.Joins.below_alloc1 _ _⟩
  have s0 := HB0.out.1.cell 0 rfl
  have s1 := HB0.out.1.cell 1 rfl
  have s2 := HB0.out.1.cell 2 rfl
  have s3 := HB0.out.1.cell 3 rfl
  have sz := HB0.out.1.2
  go_enter Try.func64, Try.ntmps64
  go_upto_region 1 with fail
  rw [← hw0]
  clear hw0
  go_wp2
  go_loopw [10] (fun i wr => ∃ k : Nat, k ≤ ms.length ∧ i = .int .i64 k ∧ (∀ j (h : j < ms.length), j < k → mid ms[j] ≠ id) ∧ Below w.heap.size w wr) (fun i _ => ms.length - (intOf i).toNat)
  case atStart => exact ⟨0, Nat.zero_le _, rfl, fun j _ hj => absurd hj (by omega), HB0.out.2⟩
  case round =>
    obtain ⟨k, hk, rfl, hall, hBr⟩ := hrel
    have HB := Hid.intro hBr
    have HA := Hid.intro hall
    clear hBr hall HB0 s0 s1 s2 s3 sz
    by_cases hlt : k < ms.length
    · have hlt' : (k : Int) < (ms.length : Int) := by omega
      have HLE : Hid (Lies wr (.list shMember) [.slice a1 ms.length k1] ms) := HL.out.1.next HB.out
      obtain ⟨xg, xoff, xgo, xgs, xec, xel, xhec, xle⟩ := Lies.elem (HLE.out) hlt
      subst xgo
      rcases xX : ms[k] with ⟨x0, x1, x2, x3, ⟨⟩⟩
      rw [xX] at xle
      have xH : Hid (ms[k] = (x0, x1, x2, x3, ())) := xX
      clear xX
      obtain ⟨xa1, xk1, xev, xq1⟩ := lies_Member xle
      subst xev
      have xc0 : wr.cell? ⟨xg, xoff + k * 4, none⟩ = some (.int .i64 x0) := xhec 0 (by simp)
      have xc1 : wr.cell? ⟨xg, xoff + k * 4 + 1, none⟩ = some (.int .i64 x1) := xhec 1 (by simp)
      have xc2 : wr.cell? ⟨xg, xoff + k * 4 + 2, none⟩ = some (.slice xa1 x2.length xk1) := xhec 2 (by simp)
      have xc3 : wr.cell? ⟨xg, xoff + k * 4 + 3, none⟩ = some (.int .i64 x3) := xhec 3 (by simp)
      clear xhec xel xle
      have HB2 := Hid.intro (below_next HB.out (Go.Joins.below_alloc1 wr (.cells #[.int .i64 x0, .int .i64 x1, .slice xa1 x2.length xk1, .int .i64 x3] 37)))
      clear xq1
      by_cases e : x0 = id
      · have HR : Hid (atM ms id = (k : Int)) := Hid.intro (atM_yes hlt (by rw [xH.out]; exact e) HA.out)
        subst e
        go_wp2
        go_ret
        exact ⟨ret_int HR.out.symm, HB2.out⟩
      · have HN : Hid (mid ms[k] ≠ id) := Hid.intro (by rw [xH.out]; exact e)
        have e1 : ((x0 : Int) == id) = false := beq_false_of_ne e
        have e2 : (x0 == id) = false := e1
        go_wp2
        go_roundw
        case rel => exact ⟨k + 1, by omega, by go_num, fun j h hj => by
          by_cases q : j = k
          · subst q; exact HN.out
          · exact HA.out j h (by omega), HB2.out⟩
        case measure => simp [intOf]; omega
    · have HR : Hid (atM ms id = -1) := Hid.intro (atM_no (fun j h => HA.out j h (by omega)))
      go_wp2
      go_ret
      exact ⟨ret_int HR.out.symm, HB.out⟩
end Go.Proofs.Ytcbdlalpnlahcaa
