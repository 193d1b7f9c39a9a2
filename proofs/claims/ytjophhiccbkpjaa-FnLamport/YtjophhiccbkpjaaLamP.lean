/- The contract of the specification's LamportOf. -/
import Derived.Test.YtjophhiccbkpjaaCau
import Derived.Test.YtjophhiccbkpjaaLamW
namespace Go.Proofs.Ytjophhiccbkpjaa
open Go.RowKit
set_option linter.unusedVariables false

/-- The numbers of the events ahead, as the specification reads them. -/
theorem row_cell {w : World} {base k : Nat} {v : Value} {X : Nat → Int} (h : w.ownsRow base 3 1 v k (ints X k)) {i : Nat} (hi : i < k) : ∃ g cap, v = .slice (some ⟨g, 0, none⟩) k cap ∧ w.cell? ⟨g, i, none⟩ = some (.int .i64 (X i)) ∧ g < w.heap.size := by
  obtain ⟨a, cap, rfl, hx⟩ := ints_row h
  obtain ⟨g, rfl, _, _, hg, hc⟩ := hx.resolve_left (by omega)
  exact ⟨g, cap, rfl, (hc i hi).1, hg⟩
/-- The greater one of a number and that of an event ahead; c counts from 1 on, 0 is none. -/
def up (K P M : Nat → Int) (c : Nat) (x : Int) : Int := max x (lam K P M c)

/-- What the two causes give, one after the other. -/
def acc (x z : Int) : Nat → Int
  | 0 => 0
  | 1 => x
  | _ => max x z

set_option maxRecDepth 100000 in
set_option maxHeartbeats 4000000 in
theorem specLamport_any (a : Option Addr) (n cap : Nat) (K P M : Nat → Int) (w : World) (hn : n ≤ 1048576) (hcap : n ≤ cap) (hs : Sl w a n 3 (evF K P M)) :
    Calls Try.prog 16 #[.slice a n cap] w fun r w' => LamPost K P M n w r w' := by
  have HS : Hid (Sl w a n 3 (evF K P M)) := hs
  clear hs
  obtain ⟨i0, hi, hz0, hz1, hz2⟩ := info_parts info_int
  go_enter Try.func16, Try.ntmps16
  go_wp2_with fail
  refine (specGoodEvents_any _ _ _ K P M _ hn hcap HS.out).mono ?_
  rintro r w1 ⟨rfl, hb1⟩
  have HB1 : Hid (Below w.heap.size w w1) := hb1
  clear hb1
  cases hg : goodE K P M n
  · have HN : Hid (goodE K P M n = false) := hg
    go_wp2
    exact bodyPost_ret (v := .tuple #[.slice none 0 0, .bool false]) (by simp [results, Try.results16, go_sem]) rfl (lam_no HN.out HB1.out)
  have HG : Hid (goodE K P M n = true) := hg
  obtain ⟨h60, hev⟩ := good_ev hg
  clear hg hev
  go_wp2
  go_loopw [16, 4] (fun i v wr => ∃ k : Nat, k ≤ n ∧ i = .int .i64 k ∧ wr.ownsRow w.heap.size 3 1 v k (ints (lmV K P M) k) ∧ Below w.heap.size w wr) (fun i _ _ => n - (intOf i).toNat)
  case atStart => exact ⟨0, Nat.zero_le _, rfl, World.ownsRow_nil _ _ _ _, HB1.out⟩
  case round =>
    obtain ⟨k, hk, rfl, hown, hBr⟩ := hrel
    clear HB1
    by_cases hlt : k < n
    · have hlt' : (k : Int) < (n : Int) := by omega
      have HR : Hid (wr.ownsRow w.heap.size 3 1 u4 k (ints (lmV K P M) k) ∧ Below w.heap.size w wr) := ⟨hown, hBr⟩
      clear hown hBr
      go_wp2_with fail
      refine (causes_any _ _ _ k K P M _ hn hcap hlt (HS.out.kept HR.out.2)).mono ?_
      rintro r w2 ⟨rfl, hb2⟩
      obtain ⟨o, ho⟩ : ∃ o, o = own P k := ⟨_, rfl⟩
      obtain ⟨s, hs⟩ : ∃ s, s = snt K M k := ⟨_, rfl⟩
      have hok : o ≤ k := by rw [ho]; exact own_le P k
      have hsk : s ≤ k := by rw [hs]; exact snt_le K M k
      have HY : Hid (max (lam K P M o) (lam K P M s) + 1 = lam K P M (k + 1)) := by show _ = _; rw [ho, hs]; exact (lam_succ K P M k).symm
      rw [← ho, ← hs]
      clear ho hs
      have HR2 : Hid (w2.ownsRow w.heap.size 3 1 u4 k (ints (lmV K P M) k) ∧ Below w.heap.size w w2) := ⟨own_keep HR.out.1 hb2, below_next HR.out.2 hb2⟩
      have hzz : w.heap.size ≤ w2.heap.size := HR2.out.2.size
      clear HR hb2
      have bo := lam_bd K P M o
      have bs := lam_bd K P M s
      obtain ⟨x, hx⟩ : ∃ x, x = lam K P M o := ⟨_, rfl⟩
      obtain ⟨z, hzd⟩ : ∃ z, z = lam K P M s := ⟨_, rfl⟩
      rw [← hx] at bo
      rw [← hzd] at bs
      have HX : Hid (x = lam K P M o ∧ z = lam K P M s) := ⟨hx, hzd⟩
      have HA : Hid (∀ c : Nat, c ≤ k → 0 < c → ∃ g cap, u4 = .slice (some ⟨g, 0, none⟩) k cap ∧ w2.cell? ⟨g, c - 1, none⟩ = some (.int .i64 (lam K P M c)) ∧ g < w2.heap.size) := fun c hc h0 => by
        obtain ⟨g, cap, e1, e2, e3⟩ := row_cell HR2.out.1 (show c - 1 < k by omega)
        exact ⟨g, cap, e1, by rw [e2]; simp [lmV, show c - 1 + 1 = c by omega], e3⟩
      clear hx hzd
      obtain ⟨p1, hp1⟩ : ∃ p, p = (o : Int) - 1 := ⟨_, rfl⟩
      obtain ⟨p2, hp2⟩ : ∃ p, p = (s : Int) - 1 := ⟨_, rfl⟩
      rw [← hp1, ← hp2]
      have HP : Hid (p1 = (o : Int) - 1 ∧ p2 = (s : Int) - 1) := ⟨hp1, hp2⟩
      clear hp1 hp2
      go_wp2
      go_loopw [29, 6] (fun i v wx => ∃ j : Nat, j ≤ 2 ∧ i = .int .i64 j ∧ v = .int .i64 (acc x z j) ∧ wx = w2.alloc (.cells #[.int .i64 p1, .int .i64 p2] 3)) (fun i _ _ => 2 - (intOf i).toNat)
      case atStart => exact ⟨0, by omega, rfl, rfl, rfl⟩
      case round =>
        obtain ⟨j, hj, rfl, rfl, rfl⟩ := hrel
        match j, hj with
        | 0, _ =>
          rw [show acc x z 0 = 0 from rfl]
          rcases Nat.eq_zero_or_pos o with h0 | h0
          · have hy0 : x = 0 := by have := HX.out.1; rw [h0] at this; exact this.trans (lam_zero K P M)
            have hpm : p1 = -1 := by have := HP.out.1; omega
            subst hpm
            go_wp2
            go_roundw
            case rel => exact ⟨1, by omega, by go_num, by rw [show acc x z 1 = 0 by simp [acc]; omega], trivial⟩
            case measure => simp [intOf]
          · obtain ⟨g, cp, rfl, e2, e3⟩ := HA.out o hok h0
            obtain ⟨c, hc⟩ : ∃ c, o = c + 1 := ⟨o - 1, by omega⟩
            have hpm : p1 = (c : Int) := by have := HP.out.1; omega
            have hck : (c : Int) < (k : Int) := by omega
            have e4 : (w2.alloc (.cells #[.int .i64 p1, .int .i64 p2] 3)).cell? ⟨g, c, none⟩ = some (.int .i64 x) := by
              have h1 := ((Go.Joins.below_alloc1 w2 (.cells #[.int .i64 p1, .int .i64 p2] 3)).cell (p := ⟨g, o - 1, none⟩) e3).trans e2
              rw [← HX.out.1, hc] at h1
              simpa using h1
            have e5 : g < (w2.alloc (.cells #[.int .i64 p1, .int .i64 p2] 3)).heap.size := by simp; omega
            clear e2 e3
            subst hpm
            by_cases hm : 0 < x
            · go_wp2
              go_roundw
              case rel => exact ⟨1, by omega, by go_num, by rw [show acc x z 1 = x by simp [acc]], trivial⟩
              case measure => simp [intOf]
            · go_wp2
              go_roundw
              case rel => exact ⟨1, by omega, by go_num, by rw [show acc x z 1 = 0 by simp [acc]; omega], trivial⟩
              case measure => simp [intOf]
        | 1, _ =>
          rw [show acc x z 1 = x from rfl]
          rcases Nat.eq_zero_or_pos s with h0 | h0
          · have hy0 : z = 0 := by have := HX.out.2; rw [h0] at this; exact this.trans (lam_zero K P M)
            have hpm : p2 = -1 := by have := HP.out.2; omega
            subst hpm
            go_wp2
            go_roundw
            case rel => exact ⟨2, by omega, by go_num, by rw [show acc x z 2 = x by simp [acc]; omega], trivial⟩
            case measure => simp [intOf]
          · obtain ⟨g, cp, rfl, e2, e3⟩ := HA.out s hsk h0
            obtain ⟨c, hc⟩ : ∃ c, s = c + 1 := ⟨s - 1, by omega⟩
            have hpm : p2 = (c : Int) := by have := HP.out.2; omega
            have hck : (c : Int) < (k : Int) := by omega
            have e4 : (w2.alloc (.cells #[.int .i64 p1, .int .i64 p2] 3)).cell? ⟨g, c, none⟩ = some (.int .i64 z) := by
              have h1 := ((Go.Joins.below_alloc1 w2 (.cells #[.int .i64 p1, .int .i64 p2] 3)).cell (p := ⟨g, s - 1, none⟩) e3).trans e2
              rw [← HX.out.2, hc] at h1
              simpa using h1
            have e5 : g < (w2.alloc (.cells #[.int .i64 p1, .int .i64 p2] 3)).heap.size := by simp; omega
            clear e2 e3
            subst hpm
            by_cases hm : x < z
            · go_wp2
              go_roundw
              case rel => exact ⟨2, by omega, by go_num, by rw [show acc x z 2 = z by simp [acc]; omega], trivial⟩
              case measure => simp [intOf]
            · go_wp2
              go_roundw
              case rel => exact ⟨2, by omega, by go_num, by rw [show acc x z 2 = x by simp [acc]; omega], trivial⟩
              case measure => simp [intOf]
        | 2, _ =>
          rw [show acc x z 2 = max x z from rfl]
          have HW : Hid ((w2.alloc (.cells #[.int .i64 p1, .int .i64 p2] 3)).ownsRow w.heap.size 3 1 u4 k (ints (lmV K P M) k) ∧ Below w.heap.size w (w2.alloc (.cells #[.int .i64 p1, .int .i64 p2] 3))) := ⟨own_keep HR2.out.1 (Go.Joins.below_alloc1 _ _), HR2.out.2.alloc hzz _⟩
          obtain ⟨y, hy⟩ : ∃ y, y = max x z := ⟨_, rfl⟩
          rw [← hy]
          have HY2 : Hid (y + 1 = lam K P M (k + 1)) := by show y + 1 = _; rw [hy, HX.out.1, HX.out.2]; exact HY.out
          have hyb : 0 ≤ y ∧ y ≤ 1048576 := by omega
          clear hy HA HX HP HR2
          go_wp2_with (first
            | (at_builtin; refine wpList_append_own _ rfl (.tmp 48) (.tmp 51) 25 rfl w.heap.size 3 i0 (.int .i64 0) 1 8 Try.underlying25 hi hz0 hz1 hz2 rfl (by decide) u4 k (ints (lmV K P M) k) rfl (World.ownsRow.alloc HW.out.1 _) ⟨_, 0, none⟩ 1 1 [.int .i64 (y + 1)] rfl rfl (one_at (by first | rfl | simp) _ _) (by intro u hu; simp at hu; subst hu; rfl) (by unfold maxLen; omega) (by omega) (by simp <;> omega) ?_; intro v4 w4 hown hgrow hnil)
            | go_in)
          have HF : Hid (w4.ownsRow w.heap.size 3 1 v4 (k + 1) (ints (lmV K P M) (k + 1)) ∧ Below w.heap.size w w4) := by
            refine ⟨?_, (HW.out.2.alloc HW.out.2.size _).grown hgrow (by have := HW.out.2.size; simp at this ⊢; omega) (fun j hj => (HW.out.1.lt j hj).1)⟩
            rw [ints_succ]
            have e : lmV K P M k = y + 1 := HY2.out.symm
            rw [e]; exact hown
          clear hown hgrow hnil
          go_wp2
          go_roundw
          case rel => exact ⟨k + 1, by omega, by go_num, HF.out⟩
          case measure => simp [intOf]; omega
    · have hkn : k = n := by omega
      subst hkn
      obtain ⟨a4, cap4, rfl, hx⟩ := ints_row hown
      have HF : Hid (IntS wr w.heap.size wr.heap.size a4 k (lmV K P M) ∧ Below w.heap.size w wr) := ⟨hx, hBr⟩
      clear hown hBr hx
      go_wp2
      exact bodyPost_ret (v := .tuple #[.slice a4 k cap4, .bool true]) (by simp [results, Try.results16, go_sem]) rfl (lam_yes HG.out HF.out.1 HF.out.2)
end Go.Proofs.Ytjophhiccbkpjaa
