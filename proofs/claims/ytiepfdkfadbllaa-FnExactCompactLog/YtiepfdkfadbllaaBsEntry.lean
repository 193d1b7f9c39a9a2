/- The place of a key among Entrys: slices.BinarySearchFunc, entryPlace. Written by tools/mkBs.py. -/
import Derived.Test.YtiepfdkfadbllaaCmT
import Derived.Test.YtiepfdkfadbllaaRwEntry
namespace Go.Proofs.Ytiepfdkfadbllaa
open Go.RowKit
set_option linter.unusedVariables false

set_option maxHeartbeats 1000000 in
theorem entryPlace1_any (v : EntryV) (t : ByteArray) (w : World) :
    Calls Try.prog 77 #[.agg #[.int .i64 v.f0, .string v.f1, .string v.f2, .int .i64 v.f3, .int .i64 v.f4, .bool v.f5], .string t] w fun e w' => e = .returned (.int .i64 (Lib.compareBytes v.f1.toList t.toList)) ∧ Below w.heap.size w w' := by
  go_enter Try.func77, Try.ntmps77
  go_wp2_with (go_at_call 78; refine (compare_any _ _ _).mono ?_; rintro e w' ⟨rfl, rfl⟩)
  go_ret
  exact ⟨rfl, (by repeat (first | refine Below.setCell ?_ (by (try simp) <;> omega) _ | refine Below.alloc ?_ (by (try simp) <;> omega) _ | refine Below.drew ?_ | assumption | exact Below.refl _ _ | refine Below.trans ?_ (Below.mono (by assumption) (by (try simp) <;> omega))))⟩

set_option maxRecDepth 100000 in
set_option maxHeartbeats 4000000 in
theorem searchEntry_any (a : Option Addr) (n cap : Nat) (V : Nat → EntryV) (t : ByteArray) (w : World) (hn : n ≤ 1048576) (hs : Sl w a n 6 (entryF V)) :
    Calls Try.prog 76 #[.slice a n cap, .string t, .func (.func 77) #[] #[]] w fun r w' => PlcPost (fun q => (V q).f1) n t w r w' := by
  have HS : Hid (Sl w a n 6 (entryF V)) := hs
  clear hs
  go_enter Try.func76, Try.ntmps76
  go_wp2
  go_loopw [9, 10] (fun i j wr => ∃ x y : Nat, x ≤ y ∧ y ≤ n ∧ i = .int .i64 x ∧ j = .int .i64 y ∧ (RiseK (fun q => (V q).f1) n → ∀ q, q < x → lesK (fun q => (V q).f1) t q = true) ∧ (RiseK (fun q => (V q).f1) n → ∀ q, y ≤ q → q < n → lesK (fun q => (V q).f1) t q = false) ∧ Below w.heap.size w wr) (fun i j _ => (intOf j - intOf i).toNat)
  case atStart => exact ⟨0, n, Nat.zero_le _, Nat.le_refl _, rfl, rfl, fun _ q hq => absurd hq (by omega), fun _ q h1 h2 => by omega, Below.refl _ _⟩
  case round =>
    obtain ⟨x, y, hxy, hyn, rfl, rfl, hlo, hhi, hBr⟩ := hrel
    have HH : Hid ((RiseK (fun q => (V q).f1) n → ∀ q, q < x → lesK (fun q => (V q).f1) t q = true) ∧ (RiseK (fun q => (V q).f1) n → ∀ q, y ≤ q → q < n → lesK (fun q => (V q).f1) t q = false) ∧ Below w.heap.size w wr) := ⟨hlo, hhi, hBr⟩
    by_cases hlt : x < y
    · have hlt' : (x : Int) < (y : Int) := by omega
      obtain ⟨h, hh⟩ : ∃ h : Nat, h = (x + y) / 2 := ⟨_, rfl⟩
      have hxh : x ≤ h := by omega
      have hhy : h < y := by omega
      rcases HS.out.below hBr (Nat.le_refl _) with hz | ⟨b, off, rfl, hbs, hE⟩
      · omega
      obtain ⟨c0, c1, c2, c3, c4, c5⟩ := entry_cells hE (show h < n by omega)
      have HQ : Hid (h = (x + y) / 2) := hh
      clear hlo hhi hBr hE hh
      go_upto_region 5 with fail
      rw [show ((x : Int) + (y : Int)) / 2 = (h : Int) from by have := HQ.out; omega]
      have hhn : (h : Int) < (n : Int) := by omega
      go_wp2_with fail
      refine (entryPlace1_any (V h) _ _).mono ?_
      rintro r w1 ⟨rfl, hb1⟩
      have HB : Hid (Below w.heap.size w w1) := HH.out.2.2.trans (hb1.mono HH.out.2.2.size)
      obtain ⟨z, hz⟩ : ∃ z, z = Lib.compareBytes (V h).f1.toList t.toList := ⟨_, rfl⟩
      have hzb := cmp_bd (V h).f1.toList t.toList
      have HZ : Hid ((z < 0) ↔ lesK (fun q => (V q).f1) t h = true) := by show _ ↔ _; rw [hz]; exact less_cmp _ _
      rw [← hz] at hzb ⊢
      clear hz hb1 c0 c1 c2 c3 c4 c5
      by_cases hl : z < 0
      · go_wp2
        go_roundw
        case rel => exact ⟨h + 1, y, by omega, hyn, by go_num, rfl, fun hr q hq => lesK_down hr (show q ≤ h by omega) (by omega) (HZ.out.1 hl), HH.out.2.1, HB.out⟩
        case measure => simp [intOf]; omega
      · have HL : Hid (lesK (fun q => (V q).f1) t h = false) := by
          show _ = _
          cases hc : lesK (fun q => (V q).f1) t h
          · rfl
          · exact absurd (HZ.out.2 hc) hl
        have hl' : decide (z < 0) = false := by simp; omega
        go_wp2
        go_roundw
        case rel => exact ⟨x, h, hxh, by omega, rfl, rfl, HH.out.1, fun hr q h1 h2 => lesK_up hr h1 h2 HL.out, HB.out⟩
        case measure => simp [intOf]; omega
    · have hxy' : x = y := by omega
      subst hxy'
      by_cases hxn : x < n
      · have hxn' : (x : Int) < (n : Int) := by omega
        rcases HS.out.below hBr (Nat.le_refl _) with hz | ⟨b, off, rfl, hbs, hE⟩
        · omega
        obtain ⟨c0, c1, c2, c3, c4, c5⟩ := entry_cells hE hxn
        clear hlo hhi hBr hE
        go_wp2_with fail
        refine (entryPlace1_any (V x) _ _).mono ?_
        rintro r w1 ⟨rfl, hb1⟩
        have HB : Hid (Below w.heap.size w w1) := HH.out.2.2.trans (hb1.mono HH.out.2.2.size)
        obtain ⟨z, hz⟩ : ∃ z, z = Lib.compareBytes (V x).f1.toList t.toList := ⟨_, rfl⟩
        have HF : Hid (z = 0 ↔ (V x).f1.toList = t.toList) := by show _ ↔ _; rw [hz]; exact eq_cmp _ _
        rw [← hz]
        clear hz hb1 c0 c1 c2 c3 c4 c5
        cases hz0 : (z == 0)
        · have HP : Hid (Placed (fun q => (V q).f1) n t x false) := ⟨hyn, fun h => (by cases h), fun hr => ⟨HH.out.1 hr, HH.out.2.1 hr, fun _ => placed_no HH.out.1 HH.out.2.1 (Or.inr ⟨hxn, fun e => by rw [HF.out.2 e] at hz0; cases hz0⟩) hr⟩⟩
          go_wp2
          exact bodyPost_ret (v := .tuple #[.int .i64 (x : Int), .bool false]) (by simp [results, Try.results76, go_sem]) rfl ⟨x, false, rfl, HP.out, HB.out⟩
        · have HP : Hid (Placed (fun q => (V q).f1) n t x true) := ⟨hyn, fun _ => ⟨hxn, HF.out.1 (by simpa using hz0)⟩, fun hr => ⟨HH.out.1 hr, HH.out.2.1 hr, fun h => (by cases h)⟩⟩
          go_wp2
          exact bodyPost_ret (v := .tuple #[.int .i64 (x : Int), .bool true]) (by simp [results, Try.results76, go_sem]) rfl ⟨x, true, rfl, HP.out, HB.out⟩
      · have hxn' : ¬ (x : Int) < (n : Int) := by omega
        have HP : Hid (Placed (fun q => (V q).f1) n t x false) := ⟨hyn, fun h => (by cases h), fun hr => ⟨hlo hr, hhi hr, fun _ => placed_no hlo hhi (Or.inl (by omega)) hr⟩⟩
        clear hlo hhi hBr
        go_wp2
        exact bodyPost_ret (v := .tuple #[.int .i64 (x : Int), .bool false]) (by simp [results, Try.results76, go_sem]) rfl ⟨x, false, rfl, HP.out, HH.out.2.2⟩

set_option maxHeartbeats 1000000 in
theorem entryPlace_any (a : Option Addr) (n cap : Nat) (V : Nat → EntryV) (t : ByteArray) (w : World) (hn : n ≤ 1048576) (hs : Sl w a n 6 (entryF V)) :
    Calls Try.prog 53 #[.slice a n cap, .string t] w fun r w' => PlcPost (fun q => (V q).f1) n t w r w' := by
  have HS : Hid (Sl w a n 6 (entryF V)) := hs
  clear hs
  go_enter Try.func53, Try.ntmps53
  go_wp2_with fail
  refine (searchEntry_any _ _ _ V t _ hn HS.out).mono ?_
  rintro r w1 ⟨p, f, rfl, hp, hb1⟩
  have HB : Hid (Placed (fun q => (V q).f1) n t p f ∧ Below w.heap.size w w1) := ⟨hp, hb1⟩
  clear hb1 hp
  go_wp2
  exact bodyPost_ret (v := .tuple #[.int .i64 (p : Int), .bool f]) (by simp [results, Try.results53, go_sem]) rfl ⟨p, f, rfl, HB.out.1, HB.out.2⟩
end Go.Proofs.Ytiepfdkfadbllaa
