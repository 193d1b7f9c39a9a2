/- Fences: what lasts, and the least epoch, on the specification's side. -/
import Derived.Test.YtdfhbflhpiohkaaFeS
namespace Go.Proofs.Ytdfhbflhpiohkaa
open Go.RowKit
set_option linter.unusedVariables false
set_option linter.unusedSimpArgs false

/-- How many of the first k that ended are lasting. -/
def lastN (du : Int) (en : List (Sh.T .int)) : Nat → Nat
  | 0 => 0
  | k + 1 => lastN du en k + if atI en k ≤ du then 1 else 0
theorem lastN_le (du : Int) (en : List (Sh.T .int)) : ∀ k, lastN du en k ≤ k
  | 0 => Nat.le_refl _
  | k + 1 => by have := lastN_le du en k; rw [lastN]; split <;> omega
def epAt (ms : List (Sh.T shMember)) (k : Nat) : Int := match ms[k]? with | some m => mep m | none => 0
theorem epAt_lt {ms : List (Sh.T shMember)} {k : Nat} (h : k < ms.length) : epAt ms k = mep ms[k] := by unfold epAt; rw [List.getElem?_eq_getElem h]
/-- The least epoch of the first k, the first one ahead of all. -/
def leastE (ms : List (Sh.T shMember)) : Nat → Int
  | 0 => epAt ms 0
  | k + 1 => if epAt ms k < leastE ms k then epAt ms k else leastE ms k
/-- A number and whether it is one. -/
def NbP (A : Int × Bool) (w : World) (r : Ending) (w' : World) : Prop := r = .returned (.tuple #[.int .i64 A.1, .bool A.2]) ∧ Below w.heap.size w w'
theorem nb_ret {A : Int × Bool} {t : Int} {b : Bool} (h : A = (t, b)) : Ending.returned (.tuple #[.int .i64 t, .bool b]) = .returned (.tuple #[.int .i64 A.1, .bool A.2]) := by rw [h]
noncomputable def laA (ep du : Int) (ms : List (Sh.T shMember)) (en : List (Sh.T .int)) : Int × Bool := open Classical in if goodF ep du ms en then (((lastN du en en.length : Nat) : Int), true) else (0, false)
noncomputable def leA (ep du : Int) (ms : List (Sh.T shMember)) (en : List (Sh.T .int)) : Int × Bool := open Classical in if goodF ep du ms en then (leastE ms ms.length, true) else (0, false)

set_option maxRecDepth 100000 in
set_option maxHeartbeats 2000000 in
theorem specLastingIn_n (cs : List Value) (ep du : Int) (ms : List (Sh.T shMember)) (en : List (Sh.T .int)) (w : World) (hz : szD shFence (ep, du, ms, en, ()) ≤ 1073741824) (h : Lies w shFence cs (ep, du, ms, en, ())) :
    Calls Try.prog 32 #[.agg cs.toArray] w (NbP (laA ep du ms en) w) := by
  obtain ⟨a1, k1, a2, k2, rfl, h1, h2⟩ := lies_Fence h
  have HL : Hid (FeL w a1 k1 a2 k2 ms en) := ⟨h1, h2⟩
  have HZ : Hid (szD shFence (ep, du, ms, en, ()) ≤ 1073741824) := hz
  have hze := (fe_sizes hz).2.1
  clear h h1 h2 hz
  have HB0 : Hid (Bx (w.alloc (.cells #[.int .i64 ep, .int .i64 du, .slice a1 ms.length k1, .slice a2 en.length k2] 29)) w.heap.size [.int .i64 ep, .int .i64 du, .slice a1 ms.length k1, .slice a2 en.length k2] ∧ Below w.heap.size w (w.alloc (.cells #[.int .i64 ep, .int .i64 du, .slice a1 ms.length k1, .slice a2 en.length k2] 29))) := ⟨Bx.new w [_, _, _, _] _, Go.Joins.below_alloc1 _ _⟩
  go_enter Try.func32, Try.ntmps32
  go_wp2_with fail
  refine (specGoodFence_n [.int .i64 ep, .int .i64 du, .slice a1 ms.length k1, .slice a2 en.length k2] ep du ms en _ HZ.out (mk_Fence (HL.out.next HB0.out.2).1 (HL.out.next HB0.out.2).2)).mono ?_
  rintro r w1 ⟨rfl, hb⟩
  have HB1 : Hid (Bx w1 w.heap.size [.int .i64 ep, .int .i64 du, .slice a1 ms.length k1, .slice a2 en.length k2] ∧ Below w.heap.size w w1) := ⟨HB0.out.1.next hb, below_next HB0.out.2 hb⟩
  clear hb HB0
  by_cases c0 : goodF ep du ms en
  case neg =>
    have HN : Hid (laA ep du ms en = (0, false)) := Hid.intro (by unfold laA; rw [if_neg c0])
    rw [tf_no c0]
    clear c0
    go_wp2
    go_ret2
    exact ⟨nb_ret HN.out, HB1.out.2⟩
  have HN : Hid (laA ep du ms en = (((lastN du en en.length : Nat) : Int), true)) := Hid.intro (by unfold laA; rw [if_pos c0])
  rw [tf_yes c0]
  clear c0
  have s0 := (HB1.out.1).cell 0 rfl; have s1 := (HB1.out.1).cell 1 rfl; have s2 := (HB1.out.1).cell 2 rfl; have s3 := (HB1.out.1).cell 3 rfl; have sz := (HB1.out.1).2
  go_wp2
  go_loopw [13, 4] (fun i v wr => ∃ k : Nat, k ≤ en.length ∧ i = .int .i64 k ∧ v = .int .i64 ((lastN du en k : Nat) : Int) ∧ Bx wr w.heap.size [.int .i64 ep, .int .i64 du, .slice a1 ms.length k1, .slice a2 en.length k2] ∧ Below w.heap.size w wr) (fun i _ _ => en.length - (intOf i).toNat)
  case atStart => exact ⟨0, Nat.zero_le _, rfl, rfl, HB1.out⟩
  case round =>
    obtain ⟨k, hk, rfl, rfl, hbx, hBr⟩ := hrel
    clear s0 s1 s2 s3 sz HB1
    have HB : Hid (Bx wr w.heap.size [.int .i64 ep, .int .i64 du, .slice a1 ms.length k1, .slice a2 en.length k2] ∧ Below w.heap.size w wr) := ⟨hbx, hBr⟩
    have s0 := (hbx).cell 0 rfl; have s1 := (hbx).cell 1 rfl; have s2 := (hbx).cell 2 rfl; have s3 := (hbx).cell 3 rfl; have sz := (hbx).2
    clear hbx hBr
    by_cases hlt : k < en.length
    · have hlt' : (k : Int) < (en.length : Int) := by omega
      obtain ⟨g, o, rfl, cr, hgz⟩ := lies_at (HL.out.2.next HB.out.2) hlt
      obtain ⟨e, he⟩ : ∃ y, y = atI en k := ⟨_, rfl⟩
      rw [← he] at cr
      have HE := Hid.intro he
      have hqk := lastN_le du en k
      obtain ⟨q, hq⟩ : ∃ q, q = lastN du en k := ⟨_, rfl⟩
      rw [← hq] at hqk ⊢
      have HQ := Hid.intro hq
      clear he hgz hq
      by_cases hle : e ≤ du
      · have HT : Hid (lastN du en (k + 1) = q + 1) := Hid.intro (by rw [lastN, ← HQ.out, if_pos (by rw [← HE.out]; exact hle)])
        go_wp2
        go_roundw
        case rel => exact ⟨k + 1, by omega, by go_num, by rw [HT.out]; go_num, HB.out⟩
        case measure => simp [intOf]; omega
      · have HT : Hid (lastN du en (k + 1) = q) := Hid.intro (by rw [lastN, ← HQ.out, if_neg (by rw [← HE.out]; exact hle), Nat.add_zero])
        go_wp2
        go_roundw
        case rel => exact ⟨k + 1, by omega, by go_num, by rw [HT.out], HB.out⟩
        case measure => simp [intOf]; omega
    · have hkn : k = en.length := by omega
      subst hkn
      go_wp2
      go_ret2
      exact ⟨nb_ret HN.out, HB.out.2⟩



end Go.Proofs.Ytdfhbflhpiohkaa
