/- The contracts of the specification's NextTid and of its l1Next. -/
import Derived.Test.YtbklhmeaoigneaaNextW
namespace Go.Proofs.Ytbklhmeaoigneaa
open Go.RowKit
set_option linter.unusedVariables false

theorem Tid1.put {w : World} {g : Nat} {e s e' s' : Int} {b b' : Bool} (h : Tid1 w g e s b) : Tid1 (((w.setCell ⟨g, 0, none⟩ (.int .i64 e')).setCell ⟨g, 1, none⟩ (.int .i64 s')).setCell ⟨g, 2, none⟩ (.bool b')) g e' s' b' := by
  obtain ⟨a0, a1, a2, f0, f1, f2, hl⟩ := h
  refine ⟨?_, ?_, ?_, by simpa using f0, by simpa using f1, by simpa using f2, by simpa using hl⟩
  · rw [World.cell?_setCell_other _ _ _ _ (addr_ne (by omega)), World.cell?_setCell_other _ _ _ _ (addr_ne (by omega))]; exact World.cell?_setCell_same _ _ _ a0
  · rw [World.cell?_setCell_other _ _ _ _ (addr_ne (by omega))]; exact World.cell?_setCell_same _ _ _ (u := .int .i64 s) (by rw [World.cell?_setCell_other _ _ _ _ (addr_ne (by omega))]; exact a1)
  · exact World.cell?_setCell_same _ _ _ (u := .bool b) (by rw [World.cell?_setCell_other _ _ _ _ (addr_ne (by omega)), World.cell?_setCell_other _ _ _ _ (addr_ne (by omega))]; exact a2)

set_option maxHeartbeats 1000000 in
theorem l1Next_any (a : Option Addr) (n cap : Nat) (E S : Nat → Int) (B : Nat → Bool) (ep : Int) (w : World) (hn : n ≤ 1048576) (hs : Sl w a n 3 (tidF E S B)) (hall : ∀ i, i < n → 0 ≤ S i ∧ S i ≤ 16777215) :
    Calls Try.prog 63 #[.slice a n cap, .int .i64 ep] w fun r w' => r = .returned (.tuple #[.agg #[.int .i64 (nextP E S ep n).1, .int .i64 (nextP E S ep n).2, .bool false], .bool ((nextP E S ep n).1 == ep && decide ((nextP E S ep n).2 ≤ 16777215))]) ∧ Below w.heap.size w w' := by
  have HA : Hid (∀ i, i < n → 0 ≤ S i ∧ S i ≤ 16777215) := hall
  clear hall
  go_enter Try.func63, Try.ntmps63
  go_wp2
  go_loopw [13] (fun i wr => ∃ k : Nat, k ≤ n ∧ i = .int .i64 k ∧ Tid1 wr w.heap.size 0 0 false ∧ Tid1 wr (w.heap.size + 1) (nextP E S ep k).1 (nextP E S ep k).2 false ∧ Below w.heap.size w wr) (fun i _ => n - (intOf i).toNat)
  case atStart => exact ⟨0, Nat.zero_le _, rfl, (Tid1.new w 0 0 false 24).below (Go.Joins.below_alloc1 _ _) (by simp), by have := Tid1.new (w.alloc (.cells #[.int .i64 0, .int .i64 0, .bool false] 24)) ep 0 false 24; simpa [nextP] using this, (by repeat (first | refine Below.setCell ?_ (by (try simp) <;> omega) _ | refine Below.alloc ?_ (by (try simp) <;> omega) _ | refine Below.drew ?_ | assumption | exact Below.refl _ _ | refine Below.trans ?_ (Below.mono (by assumption) (by (try simp) <;> omega))))⟩
  case round =>
    obtain ⟨k, hk, rfl, h4, h6, hBr⟩ := hrel
    by_cases hlt : k < n
    · rcases hs.below hBr (Nat.le_refl _) with h | ⟨b, off, rfl, hbs, hE⟩
      · omega
      obtain ⟨c0, c1, c2⟩ := tid_cells hE hlt
      have hlt' : (k : Int) < (n : Int) := by omega
      have hsk := HA.out k hlt
      have HS : Hid (nextP E S ep (k + 1) = if 0 ≤ cmpT (E k) (S k) (nextP E S ep k).1 (nextP E S ep k).2 then (E k, S k + 1) else nextP E S ep k) := rfl
      generalize hP : nextP E S ep k = P at *
      obtain ⟨pe, ps⟩ := P
      clear hP
      have HH : Hid (Tid1 wr w.heap.size 0 0 false ∧ Tid1 wr (w.heap.size + 1) pe ps false ∧ Below w.heap.size w wr) := ⟨h4, h6, hBr⟩
      have hl4 : w.heap.size < wr.heap.size := h4.2.2.2.2.2.2
      have hl6 : w.heap.size + 1 < wr.heap.size := h6.2.2.2.2.2.2
      obtain ⟨n0, n1, n2, g0, g1, g2, nl⟩ := h6
      clear h4 hBr hs hE nl
      go_wp2_with fail
      refine (l1Compare_any _ _ _ _ _ _ _).mono ?_
      rintro e w2 ⟨rfl, hb2⟩
      clear n0 n1 n2 g0 g1 g2
      obtain ⟨h4, h6, hBr⟩ := HH.out
      have ha : Below wr.heap.size wr (wr.alloc (.cells #[.int .i64 (E k), .int .i64 (S k), .bool (B k)] 24)) := Go.Joins.below_alloc1 _ _
      have k4 := (h4.below ha hl4).below hb2 (by simp; omega)
      have k6 := (h6.below ha hl6).below hb2 (by simp; omega)
      have kt := (Tid1.new wr (E k) (S k) (B k) 24).below hb2 (by simp)
      have kB : Below w.heap.size w w2 := (hBr.trans (ha.mono (by omega))).trans (hb2.mono (by simp; omega))
      have KK : Hid (Tid1 w2 w.heap.size 0 0 false ∧ Tid1 w2 (w.heap.size + 1) pe ps false ∧ Below w.heap.size w w2) := ⟨k4, k6, kB⟩
      obtain ⟨n0, n1, n2, g0, g1, g2, nl⟩ := k6
      obtain ⟨t0, t1, t2, p0, p1, p2, tl⟩ := kt
      clear h4 h6 hBr HH ha hb2 kB k4
      by_cases hc : 0 ≤ cmpT (E k) (S k) pe ps
      · have HC : Hid (0 ≤ cmpT (E k) (S k) pe ps) := hc
        go_wp2
        obtain ⟨k4, k6, kB⟩ := KK.out
        go_roundw
        case rel => exact ⟨k + 1, by omega, by go_num, ((k4.setOther (by omega)).setOther (by omega)).setOther (by omega), by rw [HS.out, if_pos HC.out]; exact k6.put, (by repeat (first | refine Below.setCell ?_ (by (try simp) <;> omega) _ | refine Below.alloc ?_ (by (try simp) <;> omega) _ | refine Below.drew ?_ | assumption | exact Below.refl _ _ | refine Below.trans ?_ (Below.mono (by assumption) (by (try simp) <;> omega))))⟩
        case measure => simp [intOf]; omega
      · have HC : Hid (¬ 0 ≤ cmpT (E k) (S k) pe ps) := hc
        go_wp2
        obtain ⟨k4, k6, kB⟩ := KK.out
        go_roundw
        case rel => exact ⟨k + 1, by omega, by go_num, k4, by rw [HS.out, if_neg (by have := HC.out; omega)]; exact k6, kB⟩
        case measure => simp [intOf]; omega
    · have hkn : k = n := by omega
      subst hkn
      generalize hP : nextP E S ep k = P at *
      obtain ⟨pe, ps⟩ := P
      have HP : Hid (nextP E S ep k = (pe, ps)) := hP
      obtain ⟨r0, r1, r2, f0, f1, f2, rl⟩ := h4
      obtain ⟨n0, n1, n2, g0, g1, g2, nl⟩ := h6
      have HB : Hid (Below w.heap.size w wr) := hBr
      clear hs hBr hP HA
      by_cases he : pe = ep
      · subst he
        have he' : (pe == pe) = true := by simp
        go_wp2
        go_region
        go_wp2
        have hB := HB.out
        exact bodyPost_ret (v := .tuple #[.agg #[.int .i64 pe, .int .i64 ps, .bool false], .bool (decide (ps ≤ 16777215))]) (by simp [results, Try.results63, go_sem, r0, r1, r2]) rfl ⟨by rw [HP.out]; simp, (by repeat (first | refine Below.setCell ?_ (by (try simp) <;> omega) _ | refine Below.alloc ?_ (by (try simp) <;> omega) _ | refine Below.drew ?_ | assumption | exact Below.refl _ _ | refine Below.trans ?_ (Below.mono (by assumption) (by (try simp) <;> omega))))⟩
      · have he' : (pe == ep) = false := by simpa using he
        clear he
        go_wp2
        go_region
        go_wp2
        have hB := HB.out
        exact bodyPost_ret (v := .tuple #[.agg #[.int .i64 pe, .int .i64 ps, .bool false], .bool false]) (by simp [results, Try.results63, go_sem, r0, r1, r2]) rfl ⟨by rw [HP.out]; simp [he'], (by repeat (first | refine Below.setCell ?_ (by (try simp) <;> omega) _ | refine Below.alloc ?_ (by (try simp) <;> omega) _ | refine Below.drew ?_ | assumption | exact Below.refl _ _ | refine Below.trans ?_ (Below.mono (by assumption) (by (try simp) <;> omega))))⟩

theorem next_spec {E S : Nat → Int} {ep : Int} {n : Nat} (hn : n ≤ 60) (he : inR ep 0 1048575 = true) (h : ∀ i, i < n → goodT (E i) (S i) = true) :
    nextOk E S ep n = ((nextP E S ep n).1 == ep && decide ((nextP E S ep n).2 ≤ 16777215)) := by
  rw [nextP_ok]; simp [nextOk, hn, he, (allGood_iff E S n).2 h]
theorem next_pair {E S : Nat → Int} {ep : Int} {n : Nat} (h : nextOk E S ep n = true) : (nextP E S ep n).1 = ep ∧ (nextP E S ep n).2 = nextS E S ep n := by
  have h2 : allLe E ep n = true := by
    cases hl : allLe E ep n
    · simp [nextOk, hl] at h
    · rfl
  rw [nextP_same E S ep n ((allLe_iff E ep n).1 h2)]; simp

set_option maxHeartbeats 1000000 in
theorem specNext_any (a : Option Addr) (n cap : Nat) (E S : Nat → Int) (B : Nat → Bool) (ep : Int) (w : World) (hn : n ≤ 1048576) (hs : Sl w a n 3 (tidF E S B)) :
    Calls Try.prog 25 #[.slice a n cap, .int .i64 ep] w fun r w' => r = .returned (.tuple #[.agg #[.int .i64 (nextE E S ep n), .int .i64 (nextT E S ep n), .bool false], .bool (nextOk E S ep n)]) ∧ Below w.heap.size w w' := by
  by_cases h60 : n ≤ 60
  case neg =>
    have h60' : (60 : Int) < (n : Int) := by omega
    have HN : Hid (nextOk E S ep n = false) := by show nextOk E S ep n = false; simp [nextOk, h60]
    clear hs h60
    go_enter Try.func25, Try.ntmps25
    go_wp2
    exact bodyPost_ret (v := .tuple #[.agg #[.int .i64 0, .int .i64 0, .bool false], .bool false]) (by simp [results, Try.results25, go_sem]) rfl ⟨next_no HN.out, (by repeat (first | refine Below.setCell ?_ (by (try simp) <;> omega) _ | refine Below.alloc ?_ (by (try simp) <;> omega) _ | refine Below.drew ?_ | assumption | exact Below.refl _ _ | refine Below.trans ?_ (Below.mono (by assumption) (by (try simp) <;> omega))))⟩
  case pos =>
  have h60' : ¬ (60 : Int) < (n : Int) := by omega
  cases hep : inR ep 0 1048575
  · have HN : Hid (nextOk E S ep n = false) := by show nextOk E S ep n = false; simp [nextOk, hep]
    clear hs h60
    go_enter Try.func25, Try.ntmps25
    go_wp2_with (go_at_call 62; refine (l1In_any _ _ _ _).mono ?_; rintro e w' ⟨rfl, rfl⟩)
    exact bodyPost_ret (v := .tuple #[.agg #[.int .i64 0, .int .i64 0, .bool false], .bool false]) (by simp [results, Try.results25, go_sem]) rfl ⟨next_no HN.out, (by repeat (first | refine Below.setCell ?_ (by (try simp) <;> omega) _ | refine Below.alloc ?_ (by (try simp) <;> omega) _ | refine Below.drew ?_ | assumption | exact Below.refl _ _ | refine Below.trans ?_ (Below.mono (by assumption) (by (try simp) <;> omega))))⟩
  · go_enter Try.func25, Try.ntmps25
    go_wp2_with (go_at_call 62; refine (l1In_any _ _ _ _).mono ?_; rintro e w' ⟨rfl, rfl⟩)
    go_loopw [21] (fun i wr => ∃ k : Nat, k ≤ n ∧ i = .int .i64 k ∧ Tid1 wr w.heap.size 0 0 false ∧ (∀ i, i < k → goodT (E i) (S i) = true) ∧ Below w.heap.size w wr) (fun i _ => n - (intOf i).toNat)
    case atStart => exact ⟨0, Nat.zero_le _, rfl, Tid1.new w 0 0 false 24, fun i hi => absurd hi (by omega), (by repeat (first | refine Below.setCell ?_ (by (try simp) <;> omega) _ | refine Below.alloc ?_ (by (try simp) <;> omega) _ | refine Below.drew ?_ | assumption | exact Below.refl _ _ | refine Below.trans ?_ (Below.mono (by assumption) (by (try simp) <;> omega))))⟩
    case round =>
      obtain ⟨k, hk, rfl, h4, hall, hBr⟩ := hrel
      by_cases hlt : k < n
      · rcases hs.below hBr (Nat.le_refl _) with h | ⟨b, off, rfl, hbs, hE⟩
        · omega
        obtain ⟨c0, c1, c2⟩ := tid_cells hE hlt
        have hlt' : (k : Int) < (n : Int) := by omega
        have HH : Hid (Tid1 wr w.heap.size 0 0 false ∧ (∀ i, i < k → goodT (E i) (S i) = true) ∧ Below w.heap.size w wr) := ⟨h4, hall, hBr⟩
        clear h4 hall hBr hs hE hep
        go_wp2_with fail
        refine (l1Tid_any _ _ _ _).mono ?_
        rintro e w2 ⟨rfl, hb2⟩
        obtain ⟨h4, hall, hBr⟩ := HH.out
        have hl4 : w.heap.size < wr.heap.size := h4.2.2.2.2.2.2
        have ha : Below wr.heap.size wr (wr.alloc (.cells #[.int .i64 (E k), .int .i64 (S k), .bool (B k)] 24)) := Go.Joins.below_alloc1 _ _
        have k4 := (h4.below ha hl4).below hb2 (by simp; omega)
        have kB : Below w.heap.size w w2 := (hBr.trans (ha.mono (by omega))).trans (hb2.mono (by simp; omega))
        have KK : Hid (Tid1 w2 w.heap.size 0 0 false ∧ (∀ i, i < k → goodT (E i) (S i) = true) ∧ Below w.heap.size w w2) := ⟨k4, hall, kB⟩
        obtain ⟨r0, r1, r2, f0, f1, f2, rl⟩ := k4
        clear h4 hall hBr HH ha hb2 kB
        cases hg : goodT (E k) (S k)
        · have HN : Hid (nextOk E S ep n = false) := ok_bad hlt hg
          go_wp2
          obtain ⟨k4, hall, kB⟩ := KK.out
          exact bodyPost_ret (v := .tuple #[.agg #[.int .i64 0, .int .i64 0, .bool false], .bool false]) (by simp [results, Try.results25, go_sem, r0, r1, r2]) rfl ⟨next_no HN.out, (by repeat (first | refine Below.setCell ?_ (by (try simp) <;> omega) _ | refine Below.alloc ?_ (by (try simp) <;> omega) _ | refine Below.drew ?_ | assumption | exact Below.refl _ _ | refine Below.trans ?_ (Below.mono (by assumption) (by (try simp) <;> omega))))⟩
        · go_wp2
          obtain ⟨k4, hall, kB⟩ := KK.out
          go_roundw
          case rel => exact ⟨k + 1, by omega, by go_num, k4, upto_succ hall hg, kB⟩
          case measure => simp [intOf]; omega
      · have hkn : k = n := by omega
        subst hkn
        have HO : Hid (nextOk E S ep k = ((nextP E S ep k).1 == ep && decide ((nextP E S ep k).2 ≤ 16777215))) := next_spec h60 hep hall
        have HA : Hid (∀ i, i < k → 0 ≤ S i ∧ S i ≤ 16777215) := fun i hi => (goodT_bd (hall i hi)).2.2
        have HB : Hid (Below w.heap.size w wr ∧ Tid1 wr w.heap.size 0 0 false ∧ Sl wr a k 3 (tidF E S B)) := ⟨hBr, h4, hs.below hBr (Nat.le_refl _)⟩
        clear hs hall hBr hep h4
        go_wp2_with fail
        refine (l1Next_any _ _ _ E S B _ _ hn HB.out.2.2 HA.out).mono ?_
        rintro e w2 ⟨rfl, hb2⟩
        obtain ⟨hBr, h4, -⟩ := HB.out
        have k4 := h4.below hb2 h4.2.2.2.2.2.2
        have kB : Below w.heap.size w w2 := hBr.trans (hb2.mono hBr.size)
        have hl4 := h4.2.2.2.2.2.2
        have hl2 := hb2.size
        have HB2 : Hid (Below w.heap.size w w2) := kB
        obtain ⟨r0, r1, r2, f0, f1, f2, rl⟩ := k4
        clear hb2 hBr h4 kB HB
        rw [← HO.out]
        cases hk2 : nextOk E S ep k
        · have HN : Hid (nextOk E S ep k = false) := hk2
          clear hk2
          generalize (nextP E S ep k).1 = pe, (nextP E S ep k).2 = ps
          go_wp2
          have hB := HB2.out
          exact bodyPost_ret (v := .tuple #[.agg #[.int .i64 0, .int .i64 0, .bool false], .bool false]) (by simp [results, Try.results25, go_sem, r0, r1, r2, rl]) rfl ⟨next_no HN.out, (by repeat (first | refine Below.setCell ?_ (by (try simp) <;> omega) _ | refine Below.alloc ?_ (by (try simp) <;> omega) _ | refine Below.drew ?_ | assumption | exact Below.refl _ _ | refine Below.trans ?_ (Below.mono (by assumption) (by (try simp) <;> omega))))⟩
        · have HN : Hid (nextOk E S ep k = true) := hk2
          rw [(next_pair hk2).1, (next_pair hk2).2]
          clear hk2
          go_wp2
          have hB := HB2.out
          exact bodyPost_ret (v := .tuple #[.agg #[.int .i64 ep, .int .i64 (nextS E S ep k), .bool false], .bool true]) (by simp [results, Try.results25, go_sem, r0, r1, r2, rl]) rfl ⟨next_yes HN.out, (by repeat (first | refine Below.setCell ?_ (by (try simp) <;> omega) _ | refine Below.alloc ?_ (by (try simp) <;> omega) _ | refine Below.drew ?_ | assumption | exact Below.refl _ _ | refine Below.trans ?_ (Below.mono (by assumption) (by (try simp) <;> omega))))⟩
end Go.Proofs.Ytbklhmeaoigneaa
