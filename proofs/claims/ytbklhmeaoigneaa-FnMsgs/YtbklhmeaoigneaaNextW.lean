/- The contracts of NextTid, of the specification's own and of what it calls. -/
import Derived.Test.YtbklhmeaoigneaaTidS
import Derived.Test.YtbklhmeaoigneaaNextM
namespace Go.Proofs.Ytbklhmeaoigneaa
open Go.RowKit
set_option linter.unusedVariables false

/-- Block g is one tid that may be written. -/
def Tid1 (w : World) (g : Nat) (e s : Int) (b : Bool) : Prop :=
  w.cell? ⟨g, 0, none⟩ = some (.int .i64 e) ∧ w.cell? ⟨g, 1, none⟩ = some (.int .i64 s) ∧ w.cell? ⟨g, 2, none⟩ = some (.bool b) ∧
  w.frozen? ⟨g, 0, none⟩ = false ∧ w.frozen? ⟨g, 1, none⟩ = false ∧ w.frozen? ⟨g, 2, none⟩ = false ∧ g < w.heap.size
theorem Tid1.below {B : Nat} {w w' : World} {g : Nat} {e s : Int} {b : Bool} (h : Tid1 w g e s b) (hb : Below B w w') (hg : g < B) : Tid1 w' g e s b := by
  obtain ⟨a0, a1, a2, f0, f1, f2, hl⟩ := h
  exact ⟨(hb.cell (p := ⟨g, 0, none⟩) hg).trans a0, (hb.cell (p := ⟨g, 1, none⟩) hg).trans a1, (hb.cell (p := ⟨g, 2, none⟩) hg).trans a2,
    (hb.frozen (p := ⟨g, 0, none⟩) hg).trans f0, (hb.frozen (p := ⟨g, 1, none⟩) hg).trans f1, (hb.frozen (p := ⟨g, 2, none⟩) hg).trans f2, Nat.lt_of_lt_of_le hl hb.size⟩
theorem Tid1.new (w : World) (e s : Int) (b : Bool) (t : TypeId) : Tid1 (w.alloc (.cells #[.int .i64 e, .int .i64 s, .bool b] t)) w.heap.size e s b := by
  refine ⟨by simp, by simp, by simp, by simp, by simp, by simp, by simp⟩
theorem Tid1.setOther {w : World} {g g' q : Nat} {e s : Int} {b : Bool} {v : Value} (h : Tid1 w g e s b) (hg : g ≠ g') : Tid1 (w.setCell ⟨g', q, none⟩ v) g e s b := by
  obtain ⟨a0, a1, a2, f0, f1, f2, hl⟩ := h
  refine ⟨?_, ?_, ?_, by simpa using f0, by simpa using f1, by simpa using f2, by simpa using hl⟩
  · rw [World.cell?_setCell_other _ _ _ _ (addr_ne' (fun e => hg e.symm))]; exact a0
  · rw [World.cell?_setCell_other _ _ _ _ (addr_ne' (fun e => hg e.symm))]; exact a1
  · rw [World.cell?_setCell_other _ _ _ _ (addr_ne' (fun e => hg e.symm))]; exact a2
theorem Tid1.setSeq {w : World} {g : Nat} {e s s' : Int} {b : Bool} (h : Tid1 w g e s b) : Tid1 (w.setCell ⟨g, 1, none⟩ (.int .i64 s')) g e s' b := by
  obtain ⟨a0, a1, a2, f0, f1, f2, hl⟩ := h
  refine ⟨?_, World.cell?_setCell_same _ _ _ a1, ?_, by simpa using f0, by simpa using f1, by simpa using f2, by simpa using hl⟩
  · rw [World.cell?_setCell_other _ _ _ _ (addr_ne (by omega))]; exact a0
  · rw [World.cell?_setCell_other _ _ _ _ (addr_ne (by omega))]; exact a2

def nextE (E S : Nat → Int) (ep : Int) (n : Nat) : Int := if nextOk E S ep n then ep else 0
def nextT (E S : Nat → Int) (ep : Int) (n : Nat) : Int := if nextOk E S ep n then nextS E S ep n else 0
theorem next_no {E S : Nat → Int} {ep : Int} {n : Nat} (h : nextOk E S ep n = false) :
    Ending.returned (.tuple #[.agg #[.int .i64 0, .int .i64 0, .bool false], .bool false]) = .returned (.tuple #[.agg #[.int .i64 (nextE E S ep n), .int .i64 (nextT E S ep n), .bool false], .bool (nextOk E S ep n)]) := by
  simp [nextE, nextT, h]
theorem next_yes {E S : Nat → Int} {ep : Int} {n : Nat} (h : nextOk E S ep n = true) :
    Ending.returned (.tuple #[.agg #[.int .i64 ep, .int .i64 (nextS E S ep n), .bool false], .bool true]) = .returned (.tuple #[.agg #[.int .i64 (nextE E S ep n), .int .i64 (nextT E S ep n), .bool false], .bool (nextOk E S ep n)]) := by
  simp [nextE, nextT, h]
theorem ok_bad {E S : Nat → Int} {ep : Int} {n k : Nat} (hk : k < n) (h : goodT (E k) (S k) = false) : nextOk E S ep n = false := by
  cases hg : allGood E S n
  · simp [nextOk, hg]
  · rw [(allGood_iff E S n).1 hg k hk] at h; cases h
theorem ok_late {E S : Nat → Int} {ep : Int} {n k : Nat} (hk : k < n) (h : ¬ E k ≤ ep) : nextOk E S ep n = false := by
  cases hg : allLe E ep n
  · simp [nextOk, hg]
  · exact absurd ((allLe_iff E ep n).1 hg k hk) h
theorem ok_done {E S : Nat → Int} {ep : Int} {n : Nat} (hn : n ≤ 60) (he : inR ep 0 1048575 = true) (h : ∀ i, i < n → goodT (E i) (S i) = true ∧ E i ≤ ep) : nextOk E S ep n = decide (nextS E S ep n ≤ 16777215) := by
  have h1 := (allGood_iff E S n).2 (fun i hi => (h i hi).1)
  have h2 := (allLe_iff E ep n).2 (fun i hi => (h i hi).2)
  simp [nextOk, hn, he, h1, h2]

set_option maxHeartbeats 1000000 in
theorem next_any (a : Option Addr) (n cap : Nat) (E S : Nat → Int) (B : Nat → Bool) (ep : Int) (w : World) (hn : n ≤ 1048576) (hs : Sl w a n 3 (tidF E S B)) :
    Calls Try.prog 24 #[.slice a n cap, .int .i64 ep] w fun r w' => r = .returned (.tuple #[.agg #[.int .i64 (nextE E S ep n), .int .i64 (nextT E S ep n), .bool false], .bool (nextOk E S ep n)]) ∧ Below w.heap.size w w' := by
  by_cases h60 : n ≤ 60
  case neg =>
    have h60' : (60 : Int) < (n : Int) := by omega
    have HN : Hid (nextOk E S ep n = false) := by show nextOk E S ep n = false; simp [nextOk, h60]
    clear hs h60
    go_enter Try.func24, Try.ntmps24
    go_wp2
    exact bodyPost_ret (v := .tuple #[.agg #[.int .i64 0, .int .i64 0, .bool false], .bool false]) (by simp [results, Try.results24, go_sem]) rfl ⟨next_no HN.out, (by repeat (first | refine Below.setCell ?_ (by (try simp) <;> omega) _ | refine Below.alloc ?_ (by (try simp) <;> omega) _ | refine Below.drew ?_ | assumption | exact Below.refl _ _ | refine Below.trans ?_ (Below.mono (by assumption) (by (try simp) <;> omega))))⟩
  case pos =>
  have h60' : ¬ (60 : Int) < (n : Int) := by omega
  cases hep : inR ep 0 1048575
  · have HN : Hid (nextOk E S ep n = false) := by show nextOk E S ep n = false; simp [nextOk, hep]
    clear hs h60
    go_enter Try.func24, Try.ntmps24
    go_wp2_with (go_at_call 61; refine (inRange_any _ _ _ _).mono ?_; rintro e w' ⟨rfl, rfl⟩)
    exact bodyPost_ret (v := .tuple #[.agg #[.int .i64 0, .int .i64 0, .bool false], .bool false]) (by simp [results, Try.results24, go_sem]) rfl ⟨next_no HN.out, (by repeat (first | refine Below.setCell ?_ (by (try simp) <;> omega) _ | refine Below.alloc ?_ (by (try simp) <;> omega) _ | refine Below.drew ?_ | assumption | exact Below.refl _ _ | refine Below.trans ?_ (Below.mono (by assumption) (by (try simp) <;> omega))))⟩
  · go_enter Try.func24, Try.ntmps24
    go_wp2_with (go_at_call 61; refine (inRange_any _ _ _ _).mono ?_; rintro e w' ⟨rfl, rfl⟩)
    go_loopw [22] (fun i wr => ∃ k : Nat, k ≤ n ∧ i = .int .i64 k ∧ Tid1 wr w.heap.size 0 0 false ∧ Tid1 wr (w.heap.size + 1) ep (nextS E S ep k) false ∧ (∀ i, i < k → goodT (E i) (S i) = true ∧ E i ≤ ep) ∧ Below w.heap.size w wr) (fun i _ => n - (intOf i).toNat)
    case atStart => exact ⟨0, Nat.zero_le _, rfl, (Tid1.new w 0 0 false 24).below (Go.Joins.below_alloc1 _ _) (by simp), by have := Tid1.new (w.alloc (.cells #[.int .i64 0, .int .i64 0, .bool false] 24)) ep 0 false 24; simpa [nextS] using this, fun i hi => absurd hi (by omega), (by repeat (first | refine Below.setCell ?_ (by (try simp) <;> omega) _ | refine Below.alloc ?_ (by (try simp) <;> omega) _ | refine Below.drew ?_ | assumption | exact Below.refl _ _ | refine Below.trans ?_ (Below.mono (by assumption) (by (try simp) <;> omega))))⟩
    case round =>
      obtain ⟨k, hk, rfl, h4, h6, hall, hBr⟩ := hrel
      by_cases hlt : k < n
      · rcases hs.below hBr (Nat.le_refl _) with h | ⟨b, off, rfl, hbs, hE⟩
        · omega
        obtain ⟨c0, c1, c2⟩ := tid_cells hE hlt
        have hlt' : (k : Int) < (n : Int) := by omega
        have HH : Hid (Tid1 wr w.heap.size 0 0 false ∧ Tid1 wr (w.heap.size + 1) ep (nextS E S ep k) false ∧ (∀ i, i < k → goodT (E i) (S i) = true ∧ E i ≤ ep) ∧ Below w.heap.size w wr ∧ inR ep 0 1048575 = true) := ⟨h4, h6, hall, hBr, hep⟩
        clear h4 h6 hall hBr hs hE hep
        go_wp2_with fail
        refine (goodTid_any _ _ _ _).mono ?_
        rintro e w2 ⟨rfl, hb2⟩
        obtain ⟨h4, h6, hall, hBr, hep⟩ := HH.out
        have hl4 : w.heap.size < wr.heap.size := h4.2.2.2.2.2.2
        have hl6 : w.heap.size + 1 < wr.heap.size := h6.2.2.2.2.2.2
        have ha : Below wr.heap.size wr (wr.alloc (.cells #[.int .i64 (E k), .int .i64 (S k), .bool (B k)] 24)) := Go.Joins.below_alloc1 _ _
        have k4 := (h4.below ha hl4).below hb2 (by simp; omega)
        have k6 := (h6.below ha hl6).below hb2 (by simp; omega)
        have kt := (Tid1.new wr (E k) (S k) (B k) 24).below hb2 (by simp)
        have kB : Below w.heap.size w w2 := (hBr.trans (ha.mono (by omega))).trans (hb2.mono (by simp; omega))
        have KK : Hid (Tid1 w2 w.heap.size 0 0 false ∧ Tid1 w2 (w.heap.size + 1) ep (nextS E S ep k) false ∧ (∀ i, i < k → goodT (E i) (S i) = true ∧ E i ≤ ep) ∧ Below w.heap.size w w2 ∧ inR ep 0 1048575 = true) := ⟨k4, k6, hall, kB, hep⟩
        obtain ⟨r0, r1, r2, f0, f1, f2, rl⟩ := k4
        obtain ⟨n0, n1, n2, g0, g1, g2, nl⟩ := k6
        obtain ⟨t0, t1, t2, p0, p1, p2, tl⟩ := kt
        clear h4 h6 hall hBr hep HH ha hb2 kB
        cases hg : goodT (E k) (S k)
        · have HN : Hid (nextOk E S ep n = false) := ok_bad hlt hg
          go_wp2
          obtain ⟨k4, k6, hall, kB, hep⟩ := KK.out
          exact bodyPost_ret (v := .tuple #[.agg #[.int .i64 0, .int .i64 0, .bool false], .bool false]) (by simp [results, Try.results24, go_sem, r0, r1, r2]) rfl ⟨next_no HN.out, (by repeat (first | refine Below.setCell ?_ (by (try simp) <;> omega) _ | refine Below.alloc ?_ (by (try simp) <;> omega) _ | refine Below.drew ?_ | assumption | exact Below.refl _ _ | refine Below.trans ?_ (Below.mono (by assumption) (by (try simp) <;> omega))))⟩
        · by_cases hle : E k ≤ ep
          · have HS : Hid (nextS E S ep (k + 1) = if E k = ep ∧ nextS E S ep k ≤ S k then S k + 1 else nextS E S ep k) := rfl
            have hbd := goodT_bd hg
            have hle' : ¬ ep < E k := by omega
            by_cases heq : E k = ep ∧ nextS E S ep k ≤ S k
            · obtain ⟨he, hsl⟩ := heq
              have he' : (E k == ep) = true := by simpa using he
              have HE : Hid (E k = ep ∧ nextS E S ep k ≤ S k) := ⟨he, hsl⟩
              clear he
              go_wp2
              obtain ⟨k4, k6, hall, kB, hep⟩ := KK.out
              go_roundw
              case rel => exact ⟨k + 1, by omega, by go_num, k4.setOther (by omega), by rw [HS.out, if_pos HE.out]; exact k6.setSeq, upto_succ hall ⟨hg, hle⟩, (by repeat (first | refine Below.setCell ?_ (by (try simp) <;> omega) _ | refine Below.alloc ?_ (by (try simp) <;> omega) _ | refine Below.drew ?_ | assumption | exact Below.refl _ _ | refine Below.trans ?_ (Below.mono (by assumption) (by (try simp) <;> omega))))⟩
              case measure => simp [intOf]; omega
            · have HE : Hid (¬ (E k = ep ∧ nextS E S ep k ≤ S k)) := heq
              by_cases he : E k = ep
              · have hsl : ¬ nextS E S ep k ≤ S k := fun x => heq ⟨he, x⟩
                have he' : (E k == ep) = true := by simpa using he
                clear he heq
                go_wp2
                obtain ⟨k4, k6, hall, kB, hep⟩ := KK.out
                go_roundw
                case rel => exact ⟨k + 1, by omega, by go_num, k4, by rw [HS.out, if_neg HE.out]; exact k6, upto_succ hall ⟨hg, hle⟩, kB⟩
                case measure => simp [intOf]; omega
              · have he' : (E k == ep) = false := by simpa using he
                clear he heq
                go_wp2
                obtain ⟨k4, k6, hall, kB, hep⟩ := KK.out
                go_roundw
                case rel => exact ⟨k + 1, by omega, by go_num, k4, by rw [HS.out, if_neg HE.out]; exact k6, upto_succ hall ⟨hg, hle⟩, kB⟩
                case measure => simp [intOf]; omega
          · have HN : Hid (nextOk E S ep n = false) := ok_late hlt hle
            have hle' : ep < E k := by omega
            go_wp2
            obtain ⟨k4, k6, hall, kB, hep⟩ := KK.out
            exact bodyPost_ret (v := .tuple #[.agg #[.int .i64 0, .int .i64 0, .bool false], .bool false]) (by simp [results, Try.results24, go_sem, r0, r1, r2]) rfl ⟨next_no HN.out, (by repeat (first | refine Below.setCell ?_ (by (try simp) <;> omega) _ | refine Below.alloc ?_ (by (try simp) <;> omega) _ | refine Below.drew ?_ | assumption | exact Below.refl _ _ | refine Below.trans ?_ (Below.mono (by assumption) (by (try simp) <;> omega))))⟩
      · have hkn : k = n := by omega
        subst hkn
        have HO : Hid (nextOk E S ep k = decide (nextS E S ep k ≤ 16777215)) := ok_done h60 hep hall
        obtain ⟨r0, r1, r2, f0, f1, f2, rl⟩ := h4
        obtain ⟨n0, n1, n2, g0, g1, g2, nl⟩ := h6
        have HB : Hid (Below w.heap.size w wr) := hBr
        clear hs hall hBr hep
        by_cases hq : nextS E S ep k ≤ 16777215
        · have HN : Hid (nextOk E S ep k = true) := by show nextOk E S ep k = true; rw [HO.out]; simpa using hq
          have hq' : ¬ 16777215 < nextS E S ep k := by omega
          go_wp2
          have hB := HB.out
          exact bodyPost_ret (v := .tuple #[.agg #[.int .i64 ep, .int .i64 (nextS E S ep k), .bool false], .bool true]) (by simp [results, Try.results24, go_sem, r0, r1, r2]) rfl ⟨next_yes HN.out, (by repeat (first | refine Below.setCell ?_ (by (try simp) <;> omega) _ | refine Below.alloc ?_ (by (try simp) <;> omega) _ | refine Below.drew ?_ | assumption | exact Below.refl _ _ | refine Below.trans ?_ (Below.mono (by assumption) (by (try simp) <;> omega))))⟩
        · have HN : Hid (nextOk E S ep k = false) := by show nextOk E S ep k = false; rw [HO.out]; simpa using hq
          have hq' : 16777215 < nextS E S ep k := by omega
          go_wp2
          have hB := HB.out
          exact bodyPost_ret (v := .tuple #[.agg #[.int .i64 0, .int .i64 0, .bool false], .bool false]) (by simp [results, Try.results24, go_sem, r0, r1, r2]) rfl ⟨next_no HN.out, (by repeat (first | refine Below.setCell ?_ (by (try simp) <;> omega) _ | refine Below.alloc ?_ (by (try simp) <;> omega) _ | refine Below.drew ?_ | assumption | exact Below.refl _ _ | refine Below.trans ?_ (Below.mono (by assumption) (by (try simp) <;> omega))))⟩
end Go.Proofs.Ytbklhmeaoigneaa
